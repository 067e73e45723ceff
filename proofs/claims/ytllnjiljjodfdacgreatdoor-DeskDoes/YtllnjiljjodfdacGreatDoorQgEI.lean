/-
 The program's New and Do of a desk. Nothing here is claimed by itself.
-/
import Derived.Test.YtllnjiljjodfdacGreatDoorQEO
namespace Go.Proofs.YtllnjiljjodfdacGreatDoor
open Go.RowKit

theorem wordsF_word : ∀ (l w : List UInt8), ∀ x ∈ wordsF w l, x.length ≤ w.length + l.length
 | [], w, x, hx => by
  unfold wordsF at hx
  split at hx
  ·cases hx
  ·simp at hx; subst hx; simp
 | c :: r, w, x, hx => by
  unfold wordsF at hx
  split at hx
  ·rcases List.mem_append.1 hx with hx | hx
   ·split at hx
    ·cases hx
    ·simp at hx; subst hx; simp
   ·have := wordsF_word r [] x hx
    simp at this ⊢
    omega
  ·have := wordsF_word r (w ++ [c]) x hx
   simp at this ⊢
   omega
theorem linesT_snoc (s : Gd) (a : List (List UInt8)) (l : List UInt8) : linesT s (a ++ [l]) = ((lineT (linesT s a).1 l).1, (linesT s a).2 ++ (lineT (linesT s a).1 l).2) := by
 rw [linesT_app]
 simp [linesT]
theorem linesT_take {s : Gd} {ls : List (List UInt8)} {k : Nat} {l : List UInt8} (h : ls[k]? = some l) : linesT s (ls.take (k + 1)) = ((lineT (linesT s (ls.take k)).1 l).1, (linesT s (ls.take k)).2 ++ (lineT (linesT s (ls.take k)).1 l).2) := by
 rw [List.take_add_one, h, Option.toList_some]
 exact linesT_snoc s _ l
set_option maxRecDepth 100000 in
theorem dknew_any (w : World) : Calls Tryz.prog 7 #[] w fun e w' => ∃ M, e = .returned (.pointer (some ⟨M.db, 0, none⟩)) ∧ Dq w w' M G0 [] := by
 go_enter Tryz.func7, Tryz.ntmps7
 go_wp2_with fail
 refine (gnew_any _).mono ?_
 rintro e w1 ⟨m, rfl, G⟩
 have HG := hide G
 have z := G.ch.size
 clear G
 go_wp2
 go_ret
 have G := unhide HG
 have k := (Chg.refl [] w1).alloc (.cells #[.pointer none, .slice none 0 0, .pointer (some ⟨m.gb, 0, none⟩)] 46)
 have hb := Blk.new w1 #[.pointer none, .slice none 0 0, .pointer (some ⟨m.gb, 0, none⟩)] 46
 refine ⟨⟨w1.heap.size, .slice none 0 0, { m with own := grw w1.heap.size m.own (fun _ => 100) }⟩, rfl, ⟨⟨.pointer none, hb, .inl rfl, World.ownsRow_nil _ _ _ _, fun _ => rfl⟩, G.fresh k, ?_, (fun x hx => by simp [Value.ownBlock] at hx), z, fun x hx => ?_⟩⟩
 ·show grw w1.heap.size m.own (fun _ => 100) w1.heap.size = 100
  exact grw_new (Nat.le_refl _)
 ·have hl := hb.lt
  rcases hx with hx | hx | hx
  ·rcases Nat.lt_or_ge x w1.heap.size with h1 | h1
   ·exact Nat.lt_of_lt_of_le h1 k.size
   ·exact absurd (show grw w1.heap.size m.own (fun _ => 100) x = 100 from grw_new h1) hx
  ·rw [show x = w1.heap.size from hx]; exact hl
  ·simp [Value.ownBlock] at hx
theorem ret_do {fn : Func} {q p : Tmp} (h : fn.results = #[.tmp p, .cell q 31]) {tmps : Array Value} {w : World} {c : Nat} {b : Value}
  (hp : tmps.getD p undef = b) (hq : tmps.getD q undef = .pointer (some ⟨c, 0, none⟩)) {ty'' : TypeId} {x y : Value} (hA : Blk w c #[x, y] ty'') :
  (results fn tmps).run Tryz.prog w = .ok (.tuple #[b, .agg #[x, y]]) w := by
 have ha := load_flt hA
 have hq' : tmps[q]?.getD undef = .pointer (some ⟨c, 0, none⟩) := by simpa using hq
 have hp' : tmps[p]?.getD undef = b := by simpa using hp
 simp only [results, h]
 simp [hq', hp', asAddr, ha]
theorem Dq.drop {W0 w w' w2 : World} {M : Dm} {s : Gd} {told : List UInt8} (D : Dq W0 w M s told) (k : Chg (fp M.db M.v) w w') (g : Chg [M.db] w' w2) (hB : Blk w2 M.db #[.pointer none, .slice none 0 0, .pointer (some ⟨M.g.gb, 0, none⟩)] 46) : Dqn W0 w M w2 ⟨M.db, .slice none 0 0, M.g⟩ s [] :=
 D.wrote (told' := []) (p := .pointer none) (k.trans g (fun x hx => by simp at hx; subst hx; exact .inl (mem_fp.2 (.inl rfl)))) ⟨hB, .inl rfl, World.ownsRow_nil _ _ _ _, fun _ => rfl⟩ (fun x hx => by simp [Value.ownBlock] at hx)
theorem Dq.long {W0 w : World} {M : Dm} {s : Gd} {told : List UInt8} (D : Dq W0 w M s told) (l : List UInt8) : (lineT s l).2.length ≤ 60000 := by
 obtain ⟨rs, t, pl⟩ := D.c.pl
 exact line_len pl D.c.dsk.few l
set_option maxRecDepth 100000 in
set_option maxHeartbeats 4000000 in
theorem ddo_bad (M : Dm) (a : Option Addr) (n c : Nat) (ls : List (List UInt8)) (w : World) (hl : ls.length = n) (h : Strs w a ls) (hf : ¬ (faultL ls).1 = 0) :
  Calls Tryz.prog 9 #[.pointer (some ⟨M.db, 0, none⟩), .slice a n c] w fun e w' => e = .returned (.tuple #[.string (strA []), .agg #[.int .i64 (faultL ls).1, .int .i64 (faultL ls).2]]) ∧ Chg [] w w' := by
 have k0 := (Chg.refl [] w).alloc (.cells #[.int .i64 0, .int .i64 0] 31)
 have HS := hide (h.chg k0)
 have HL := hide hl
 have b0 : ((faultL ls).1 != 0) = true := by simpa using hf
 clear h hl hf k0
 go_enter Tryz.func9, Tryz.ntmps9
 go_wp2_with fail
 refine (dcheck_any a n c ls _ (unhide HL) (unhide HS)).mono ?_
 rintro e w2 ⟨rfl, g2⟩
 have B2 := (Blk.new w #[.int .i64 0, .int .i64 0] 31).chg g2 (by simp)
 have G2 : Chg [] w w2 := ((Chg.refl [] w).alloc _).trans g2 (by simp)
 have l2 := B2.lt
 have r0 : w2.cell? ⟨w.heap.size, 0, none⟩ = some (.int .i64 0) := B2.cell 0
 have r1 : w2.cell? ⟨w.heap.size, 1, none⟩ = some (.int .i64 0) := B2.cell 1
 have fz0 := B2.fz 0
 have fz1 := B2.fz 1
 clear g2
 go_upto_region 3 with fail
 go_region
 all_goals (go_wp2; exact bodyPost_ret (ret_do rfl rfl rfl (((B2.set 0 (.int .i64 (faultL ls).1)).set 1 (.int .i64 (faultL ls).2)).alloc _)) rfl ⟨rfl, ((((G2.setCell (p := ⟨w.heap.size, 0, none⟩) (.inr (Nat.le_refl _)) _).setCell (p := ⟨w.heap.size, 1, none⟩) (.inr (Nat.le_refl _)) _).alloc _).drew)⟩)
set_option maxRecDepth 100000 in
set_option maxHeartbeats 8000000 in
theorem ddo_ok (W0 : World) (M : Dm) (s : Gd) (a : Option Addr) (n c : Nat) (ls : List (List UInt8)) (w : World) (D : Dq W0 w M s []) (hv : Vars W0) (hl : ls.length = n) (hll : ∀ x ∈ ls, x.length ≤ 900000) (h : StrsF w M a ls) (hf : faultL ls = (0, 0)) (hn : n ≤ 150) :
  Calls Tryz.prog 9 #[.pointer (some ⟨M.db, 0, none⟩), .slice a n c] w fun e w' => e = .returned (.tuple #[.string (strA (linesT s ls).2), .agg #[.int .i64 0, .int .i64 0]]) ∧ (linesT s ls).2.length ≤ 9000000 ∧ ∃ M', Dqn W0 w M w' M' (linesT s ls).1 [] := by
 have k0 := (Chg.refl [] w).alloc (.cells #[.int .i64 0, .int .i64 0] 31)
 have HS := hide (h.plain.chg k0)
 have HSF := hide h
 have HL := hide hl
 have HLL := hide hll
 have HV := hide hv
 have HD := hide D
 have HF := hide hf
 have nm := D.free (Nat.le_refl _)
 clear h hl D hf k0 hll hv
 go_enter Tryz.func9, Tryz.ntmps9
 go_wp2_with fail
 refine (dcheck_any a n c ls _ (unhide HL) (unhide HS)).mono ?_
 rintro e w2 ⟨rfl, g2⟩
 rw [unhide HF]
 have B2 := (Blk.new w #[.int .i64 0, .int .i64 0] 31).chg g2 (by simp)
 have G2 : Chg [] w w2 := ((Chg.refl [] w).alloc _).trans g2 (by simp)
 have B3 := B2.alloc (.cells #[.int .i64 0, .int .i64 0] 31)
 have G3 := G2.alloc (.cells #[.int .i64 0, .int .i64 0] 31)
 have HQ3 := hide ((unhide HD).quiet G3)
 have HSF3 := hide ((unhide HSF).new G3)
 have HB3 := hide B3
 clear g2 B2 G2 B3 G3
 simp only
 go_upto_region 4 with fail
 generalize w2.alloc (.cells #[.int .i64 0, .int .i64 0] 31) = w3 at *
 go_wp2_with fail
 go_loopw [19] (fun i wr => ∃ (k : Nat) (M1 : Dm), k ≤ n ∧ i = .int .i64 k ∧ Dqn W0 w3 M wr M1 (linesT s (ls.take k)).1 (linesT s (ls.take k)).2 ∧ Hid ((linesT s (ls.take k)).2.length ≤ 60000 * k)) (fun i _ => n - (intOf i).toNat)
 case atStart => exact ⟨0, M, by omega, rfl, Dqn.refl (unhide HQ3).k, hide (by simp [linesT])⟩
 case round =>
  obtain ⟨k, M1, hk, rfl, X, HTL⟩ := hrel
  have HX := hide X
  have lb1 : M1.db = M.db := X.db
  have HDB := hide lb1
  have zdb := X.k.lt
  rw [lb1] at zdb
  clear lb1
  by_cases hlt : k < n
  ·have hki : (k : Int) < (n : Int) := by omega
   have hk0 : (0 : Int) ≤ (k : Int) := by omega
   obtain ⟨l, hx⟩ : ∃ l, ls[k]? = some l := ⟨_, List.getElem?_eq_getElem (by rw [unhide HL]; exact hlt)⟩
   rcases (unhide HSF3).next X with h0 | ⟨g, off, rfl, hg, hgn, hc⟩
   ·exfalso; have := unhide HL; rw [h0] at this; simp at this; omega
   have p0 := hc k l hx
   have hll := unhide HLL l (List.mem_of_getElem? hx)
   clear HX
   obtain ⟨s1, hs1⟩ : ∃ s1, s1 = (linesT s (ls.take k)).1 := ⟨_, rfl⟩
   obtain ⟨t1, ht1⟩ : ∃ t1, t1 = (linesT s (ls.take k)).2 := ⟨_, rfl⟩
   have HX := hide (show Dqn W0 w3 M wr M1 s1 t1 by rw [hs1, ht1]; exact X)
   have HT := hide (show linesT s (ls.take (k + 1)) = ((lineT s1 l).1, t1 ++ (lineT s1 l).2) by rw [hs1, ht1]; exact linesT_take hx)
   have HLG := hide ((unhide HX).k.long l)
   have HTL1 := hide (show t1.length ≤ 60000 * k by rw [ht1]; exact unhide HTL)
   clear hc hx X hs1 ht1 HTL
   have HTL := HTL1
   clear HTL1
   go_wp2_with fail
   refine (wordsof_any l _ (by omega)).mono ?_
   rintro e w4 ⟨v, rfl, own, g4⟩
   obtain ⟨av, cv, rfl, hcv, hS4⟩ := own_strs own
   have D4 := (unhide HX).k.new g4
   have HQ4 := hide ((unhide HX).trans ((unhide HX).k.quiet g4))
   have HS4 := hide hS4
   have hwl : (wordsL l).length ≤ 900001 := Nat.le_trans (wordsF_len l []) (by omega)
   have HWW := hide (show ∀ y ∈ wordsL l, y.length ≤ 1000000 from fun y hy => by have := wordsF_word l [] y hy; simp at this; omega)
   have HLW := hide (lineT_words s1 l)
   clear own g4 hS4
   by_cases hne : wordsL l = []
   ·have HLE := hide (show lineT s1 l = (s1, []) by rw [unhide HLW, hne]; rfl)
    have e0 : (wordsL l).length = 0 := by rw [hne]; rfl
    rw [e0]
    clear hne e0 hwl D4
    go_wp2
    go_roundw
    case rel => exact ⟨k + 1, M1, by omega, by go_num, by rw [unhide HT, unhide HLE, List.append_nil]; exact unhide HQ4, hide (by rw [unhide HT, unhide HLE, List.append_nil]; have := unhide HTL; show t1.length ≤ _; omega)⟩
    case measure => go_light; simp [intOf]; omega
   ·have w0 : (0 : Int) < ((wordsL l).length : Int) := by
     have : (wordsL l).length ≠ 0 := fun e => hne (List.eq_nil_of_length_eq_zero e)
     omega
    have HNE := hide hne
    obtain ⟨q, hq⟩ : ∃ q, q = (wordsL l).length := ⟨_, rfl⟩
    rw [← hq] at w0 hcv hwl ⊢
    have HQQ := hide hq
    clear hne hq
    go_wp2_with fail
    refine (show Calls Tryz.prog 15 #[.pointer (some ⟨M.db, 0, none⟩), .slice av q cv] w4 _ from by rw [← unhide HDB]; exact dobey_any W0 M1 s1 t1 av q cv (wordsL l) w4 D4 (unhide HV) (by have := unhide HTL; omega) (unhide HNE) (unhide HQQ).symm (by omega) hcv (unhide HWW) (unhide HS4)).mono ?_
    rintro e w5 ⟨rfl, M5, X5⟩
    rw [← unhide HLW] at X5
    have HQ5 := hide ((unhide HQ4).trans X5)
    clear X5 D4
    go_wp2
    go_roundw
    case rel => exact ⟨k + 1, M5, by omega, by go_num, by rw [unhide HT]; exact unhide HQ5, hide (by rw [unhide HT, List.length_append]; have h1 := unhide HTL; have h2 := unhide HLG; omega)⟩
    case measure => go_light; simp [intOf]; omega
  ·have hki : ¬ (k : Int) < (n : Int) := by omega
   have HT := hide (show ls.take k = ls by rw [show k = ls.length by rw [unhide HL]; omega, List.take_length])
   have HX2 := hide (show Dqn W0 w3 M wr M1 (linesT s ls).1 (linesT s ls).2 by have := unhide HX; rw [unhide HT] at this; exact this)
   have HTL2 := hide (show (linesT s ls).2.length ≤ 60000 * k by have := unhide HTL; rw [unhide HT] at this; exact this)
   have HB5 := hide ((unhide HX).blk (unhide HB3) nm)
   clear X HX HTL
   obtain ⟨tl, htl⟩ : ∃ tl, tl = (linesT s ls).2 := ⟨_, rfl⟩
   obtain ⟨sl, hsl⟩ : ∃ sl, sl = (linesT s ls).1 := ⟨_, rfl⟩
   have HX3 := hide (show Dqn W0 w3 M wr M1 sl tl by rw [htl, hsl]; exact unhide HX2)
   have HTL3 := hide (show tl.length ≤ 1000000000 by rw [htl]; have := unhide HTL2; omega)
   have HTL4 := hide (show tl.length ≤ 9000000 by rw [htl]; have := unhide HTL2; omega)
   have HTE := hide htl
   have HSE := hide hsl
   have nm1 : ¬ M1.mine w.heap.size := (unhide HX3).other (unhide HB3).lt nm
   obtain ⟨p, hBl⟩ := (unhide HX3).k.d
   have HBL := hide hBl
   have zw := (unhide HD).c.ch.size
   clear htl hsl HX2 HTL2 hBl HT
   go_wp2_with fail
   refine (show Calls Tryz.prog 16 #[.pointer (some ⟨M.db, 0, none⟩)] wr _ from by rw [← unhide HDB]; exact bstring_any W0.heap.size M1.db p M1.v _ tl wr (unhide HBL) (unhide HTL3)).mono ?_
   rintro e w5 ⟨rfl, B5, g5⟩
   have z5 : M.db < w5.heap.size := by rw [← unhide HDB]; exact B5.lt
   go_wp2_with fail
   refine (show Calls Tryz.prog 17 #[.pointer (some ⟨M.db, 0, none⟩)] w5 _ from by rw [← unhide HDB]; exact breset_any M1.db p M1.v _ w5 B5).mono ?_
   rintro e w6 ⟨rfl, B6, g6⟩
   have X6 := (unhide HX3).k.drop g5 g6 B6
   have BF := X6.blk (unhide HB5) nm1
   have nm6 := X6.other (unhide HB5).lt nm1
   have HQ6 := hide ((unhide HQ3).trans ((unhide HX3).trans X6))
   have l6 := BF.lt
   have r0 : w6.cell? ⟨w.heap.size, 0, none⟩ = some (.int .i64 0) := BF.cell 0
   have r1 : w6.cell? ⟨w.heap.size, 1, none⟩ = some (.int .i64 0) := BF.cell 1
   have fz0 := BF.fz 0
   have fz1 := BF.fz 1
   clear g5 g6 B5 B6 X6
   go_wp2
   have kS := ((Chg.refl [w.heap.size] w6).setCell (p := ⟨w.heap.size, 0, none⟩) (.inl (by simp)) (.int .i64 0)).setCell (p := ⟨w.heap.size, 1, none⟩) (.inl (by simp)) (.int .i64 0)
   have XE := (unhide HQ6).later kS (by intro y hy; simp at hy; subst hy; exact ⟨nm6, Nat.le_refl _⟩) zw
   rw [← unhide HTE, ← unhide HSE]
   exact bodyPost_ret (ret_do rfl rfl rfl ((BF.set 0 (.int .i64 0)).set 1 (.int .i64 0))) rfl ⟨rfl, unhide HTL4, _, XE⟩
def slowF : Nat → List (List UInt8) → Bool
 | _, [] => false
 | n, l :: r => if 9000 < n + l.length then true else slowF (n + l.length) r
theorem slowF_le : ∀ (ls : List (List UInt8)) (n : Nat), slowF n ls = false → ∀ x ∈ ls, x.length ≤ 9000
 | [], _, _, x, hx => by cases hx
 | l :: r, n, h, x, hx => by
  unfold slowF at h
  split at h
  ·cases h
  ·rcases List.mem_cons.1 hx with rfl | hx
   ·omega
   ·exact slowF_le r _ h x hx
set_option maxRecDepth 100000 in
set_option maxHeartbeats 4000000 in
theorem slow_any (a : Option Addr) (n c : Nat) (ls : List (List UInt8)) (w : World) (hl : ls.length = n) (hn : n ≤ 1000) (hs : ∀ x ∈ ls, x.length ≤ 1000000000000000000) (h : Strs w a ls) :
  Calls Tryz.prog 6 #[.slice a n c] w fun e w' => e = .returned (.bool (slowF 0 ls)) ∧ w' = w := by
 have HH := hide h
 have HL := hide hl
 have HS := hide hs
 clear h hl hs
 go_enter Tryz.func6, Tryz.ntmps6
 go_wp2_with fail
 go_loop [3, 4] (fun q i => ∃ k p : Nat, k ≤ n ∧ i = .int .i64 k ∧ q = .int .i64 p ∧ p ≤ 9000 ∧ Hid (slowF 0 ls = slowF p (ls.drop k))) (fun _ i => n - (intOf i).toNat)
 case atStart => exact ⟨0, 0, by omega, rfl, rfl, by omega, hide (by simp)⟩
 case round =>
  obtain ⟨k, p, hk, rfl, rfl, hp, HE⟩ := hrel
  by_cases hlt : k < n
  ·have hki : (k : Int) < (n : Int) := by omega
   have hk0 : (0 : Int) ≤ (k : Int) := by omega
   obtain ⟨x, hx⟩ : ∃ x, ls[k]? = some x := ⟨_, List.getElem?_eq_getElem (by rw [unhide HL]; exact hlt)⟩
   rcases unhide HH with h0 | ⟨g, off, rfl, hg, hc⟩
   ·exfalso; have := unhide HL; rw [h0] at this; simp at this; omega
   have p0 := hc k x hx
   have hxs := unhide HS x (List.mem_of_getElem? hx)
   have hsz := strA_size x
   have HD := hide (show slowF 0 ls = if 9000 < p + x.length then true else slowF (p + x.length) (ls.drop (k + 1)) by
    rw [unhide HE, List.drop_eq_getElem_cons (by rw [unhide HL]; exact hlt), (List.getElem?_eq_some_iff.1 hx).2]
    rfl)
   clear hc hx
   by_cases hb : 9000 < p + x.length
   ·have d1 : (9000 : Int) < (p : Int) + (x.length : Int) := by omega
    have HR := hide (show slowF 0 ls = true by rw [unhide HD, if_pos hb])
    go_wp2
    go_ret
    rw [unhide HR]
    exact ⟨rfl, rfl⟩
   ·have d1 : ¬ (9000 : Int) < (p : Int) + (x.length : Int) := by omega
    have HR := hide (show slowF 0 ls = slowF (p + x.length) (ls.drop (k + 1)) by rw [unhide HD, if_neg hb])
    go_wp2
    go_round
    case rel => exact ⟨k + 1, p + x.length, by omega, by go_num, by go_num, by omega, HR⟩
    case measure => simp [intOf]; omega
  ·have hki : ¬ (k : Int) < (n : Int) := by omega
   have HR := hide (show slowF 0 ls = false by rw [unhide HE, List.drop_eq_nil_of_le (by rw [unhide HL]; omega)]; rfl)
   go_wp2
   go_ret
   rw [unhide HR]
   exact ⟨rfl, rfl⟩
def bgL : List (List UInt8) := [[111, 112, 101, 110, 32, 48], [97, 100, 100, 32, 48, 32, 50], [116, 97, 107, 101, 32, 48, 32, 49, 32, 53], [116, 105, 99, 107, 32, 51], [116, 101, 97, 114, 32, 52, 32, 100, 111, 110, 101, 32, 48, 32, 50, 32, 49, 32, 49], [100, 111, 110, 101, 32, 48, 32, 50, 32, 49, 32, 49], [111, 112, 101, 110, 32, 49], [100, 111, 110, 101, 32, 49, 32, 50, 32, 49, 32, 49], [106, 111, 98, 32, 49, 32, 50], [108, 111, 103], [104, 111, 108, 100, 101, 114, 115, 32, 50], [100, 105, 115, 107], [120]]
theorem bg_fault : faultL bgL = (0, 0) := by kernel_rfl
def bgT : List UInt8 := [111, 107, 10, 111, 107, 10, 111, 107, 32, 50, 32, 49, 10, 111, 107, 10, 111, 107, 10, 110, 111, 32, 49, 48, 10, 111, 107, 10, 111, 107, 10, 106, 111, 98, 32, 51, 32, 49, 32, 49, 32, 48, 10, 114, 101, 99, 111, 114, 100, 32, 49, 32, 49, 32, 48, 32, 50, 32, 48, 32, 48, 32, 48, 32, 106, 111, 98, 32, 49, 32, 48, 32, 48, 32, 48, 10, 114, 101, 99, 111, 114, 100, 32, 49, 32, 50, 32, 48, 32, 48, 32, 48, 32, 49, 32, 53, 32, 106, 111, 98, 32, 50, 32, 49, 32, 49, 32, 53, 10, 114, 101, 99, 111, 114, 100, 32, 50, 32, 52, 32, 51, 32, 50, 32, 49, 32, 49, 32, 48, 32, 106, 111, 98, 32, 51, 32, 49, 32, 49, 32, 48, 10, 101, 110, 100, 10, 104, 111, 108, 100, 101, 114, 115, 32, 49, 32, 49, 10, 100, 105, 115, 107, 32, 50, 32, 50, 55, 32, 51, 10, 119, 104, 97, 116, 10]
theorem bg_told : (linesT G0 bgL).2 = bgT := by kernel_rfl
abbrev bgC : Array Value := #[.string (strA [111, 112, 101, 110, 32, 48]), .string (strA [97, 100, 100, 32, 48, 32, 50]), .string (strA [116, 97, 107, 101, 32, 48, 32, 49, 32, 53]), .string (strA [116, 105, 99, 107, 32, 51]), .string (strA [116, 101, 97, 114, 32, 52, 32, 100, 111, 110, 101, 32, 48, 32, 50, 32, 49, 32, 49]), .string (strA [100, 111, 110, 101, 32, 48, 32, 50, 32, 49, 32, 49]), .string (strA [111, 112, 101, 110, 32, 49]), .string (strA [100, 111, 110, 101, 32, 49, 32, 50, 32, 49, 32, 49]), .string (strA [106, 111, 98, 32, 49, 32, 50]), .string (strA [108, 111, 103]), .string (strA [104, 111, 108, 100, 101, 114, 115, 32, 50]), .string (strA [100, 105, 115, 107]), .string (strA [120])]
theorem bg_strs {w : World} {M : Dm} {b : Nat} {t : TypeId} (hn : ¬ M.mine b) (h : Blk w b bgC t) : StrsF w M (some ⟨b, 0, none⟩) bgL := by
 refine .inr ⟨b, 0, rfl, h.lt, hn, fun i z hz => ?_⟩
 rw [h.cell, Nat.zero_add]
 have e : bgC.toList = strsC bgL := rfl
 rw [← Array.getElem?_toList, e]
 unfold strsC
 rw [List.getElem?_map, hz]
 rfl
set_option maxRecDepth 100000 in
set_option maxHeartbeats 4000000 in
theorem dkbegun_any (w : World) (hv : Vars w) : Calls Tryz.prog 5 #[] w fun e w' => e = .returned (.bool true) ∧ Chg [] w w' := by
 have HV := hide hv
 clear hv
 go_enter Tryz.func5, Tryz.ntmps5
 go_wp2_with fail
 refine (dknew_any _).mono ?_
 rintro e w1 ⟨M, rfl, D⟩
 have k1 := (Chg.refl [] w1).alloc (.cells bgC 9)
 have S1 := bg_strs (D.free (Nat.le_refl _)) (Blk.new w1 bgC 9)
 have D1 := D.new k1
 have HD := hide D
 clear D k1
 go_wp2_with fail
 refine (ddo_ok w M G0 _ 13 13 bgL _ D1 (unhide HV) rfl (by decide) S1 bg_fault (by omega)).mono ?_
 rintro e w2 ⟨rfl, -, M2, X2⟩
 rw [bg_told]
 have G2 := X2.k.c.ch
 clear X2 D1 S1
 have hcmp : ((strA bgT).toList == [111, 107, 10, 111, 107, 10, 111, 107, 32, 50, 32, 49, 10, 111, 107, 10, 111, 107, 10, 110, 111, 32, 49, 48, 10, 111, 107, 10, 111, 107, 10, 106, 111, 98, 32, 51, 32, 49, 32, 49, 32, 48, 10, 114, 101, 99, 111, 114, 100, 32, 49, 32, 49, 32, 48, 32, 50, 32, 48, 32, 48, 32, 48, 32, 106, 111, 98, 32, 49, 32, 48, 32, 48, 32, 48, 10, 114, 101, 99, 111, 114, 100, 32, 49, 32, 50, 32, 48, 32, 48, 32, 48, 32, 49, 32, 53, 32, 106, 111, 98, 32, 50, 32, 49, 32, 49, 32, 53, 10, 114, 101, 99, 111, 114, 100, 32, 50, 32, 52, 32, 51, 32, 50, 32, 49, 32, 49, 32, 48, 32, 106, 111, 98, 32, 51, 32, 49, 32, 49, 32, 48, 10, 101, 110, 100, 10, 104, 111, 108, 100, 101, 114, 115, 32, 49, 32, 49, 10, 100, 105, 115, 107, 32, 50, 32, 50, 55, 32, 51, 10, 119, 104, 97, 116, 10]) = true := eqw rfl
 go_wp2
 go_ret
 exact ⟨rfl, G2.alloc _⟩
theorem Gld.lower {W1 W0 w : World} {m : Gm} {s : Gd} (h : Gld W0 w m s) (k : Chg [] W1 W0) : Gld W1 w m s :=
 ⟨h.blk, ⟨h.dsk.blk, own_base h.dsk.own k.size, h.dsk.few, h.dsk.ok, h.dsk.ne⟩, h.nod, h.pl, h.ogb, h.od, h.on, (fun x hx => h.lo x (Nat.lt_of_lt_of_le hx k.size)), k.trans h.ch (by simp)⟩
theorem Dq.lower {W1 W0 w : World} {M : Dm} {s : Gd} {told : List UInt8} (h : Dq W0 w M s told) (k : Chg [] W1 W0) : Dq W1 w M s told := by
 obtain ⟨p, hB⟩ := h.d
 exact ⟨⟨p, hB.blk, hB.hp, own_base hB.row k.size, hB.nl⟩, h.c.lower k, h.od, h.ov, Nat.le_trans k.size h.b, h.hi⟩
def Apart7 (M N : Dm) : Prop := ∀ x, M.mine x → ¬ N.mine x
theorem Apart7.symm {M N : Dm} (h : Apart7 M N) : Apart7 N M := fun x hx hy => h x hy hx
theorem Dqn.apart {W0 w w' : World} {M M' N : Dm} {s' s2 : Gd} {t' t2 : List UInt8} (X : Dqn W0 w M w' M' s' t') (E : Dq W0 w N s2 t2) (D0 : Dq W0 w M s2 t2 ∨ ∀ x, M.mine x → W0.heap.size ≤ x) (ap : Apart7 M N) : Dq W0 w' N s2 t2 ∧ Apart7 M' N := by
 have lo : ∀ x, M.mine x → W0.heap.size ≤ x := D0.elim (fun d x hx => d.lo hx) id
 obtain ⟨bs, c, hb⟩ := X.ch
 refine ⟨E.keep c (fun x hx => ⟨ap x (hb x hx).1, lo x (hb x hx).1⟩), fun x hx hy => ?_⟩
 exact ap x (X.ow x (E.hi x hy) hx) hy
def doS (s : Gd) (ls : List (List UInt8)) : Gd := if (faultL ls).1 = 0 then (linesT s ls).1 else s
def doO (s : Gd) (ls : List (List UInt8)) : List UInt8 := if (faultL ls).1 = 0 then (linesT s ls).2 else []
theorem faultL_cases (ls : List (List UInt8)) : (faultL ls = (0, 0) ∧ ls.length ≤ 150) ∨ ¬ (faultL ls).1 = 0 := by
 unfold faultL
 split
 ·right; decide
 ·split
  ·right; simp
  ·left; exact ⟨rfl, by omega⟩
theorem ddo_any (W0 : World) (M : Dm) (s : Gd) (db : Nat) (a : Option Addr) (n c : Nat) (ls : List (List UInt8)) (w : World) (hdb : M.db = db) (D : Dq W0 w M s []) (hv : Vars W0) (hl : ls.length = n) (hll : ∀ x ∈ ls, x.length ≤ 900000) (h : StrsF w M a ls) :
  Calls Tryz.prog 9 #[.pointer (some ⟨db, 0, none⟩), .slice a n c] w fun e w' => e = .returned (.tuple #[.string (strA (doO s ls)), .agg #[.int .i64 (faultL ls).1, .int .i64 (faultL ls).2]]) ∧ (doO s ls).length ≤ 9000000 ∧ ∃ M', Dqn W0 w M w' M' (doS s ls) [] := by
 subst hdb
 rcases faultL_cases ls with ⟨hf, hn⟩ | hf
 ·have e1 : doS s ls = (linesT s ls).1 := by unfold doS; rw [if_pos (by rw [hf])]
  have e2 : doO s ls = (linesT s ls).2 := by unfold doO; rw [if_pos (by rw [hf])]
  rw [e1, e2, hf]
  exact ddo_ok W0 M s a n c ls w D hv hl hll h hf (by omega)
 ·have e1 : doS s ls = s := by unfold doS; rw [if_neg hf]
  have e2 : doO s ls = [] := by unfold doO; rw [if_neg hf]
  rw [e1, e2]
  refine (ddo_bad M a n c ls w hl h.plain hf).mono ?_
  rintro e w' ⟨rfl, g⟩
  exact ⟨rfl, by simp, M, D.quiet g⟩
theorem fault_iff {ls : List (List UInt8)} (h : ls.length ≤ 150) : (faultL ls).1 = 0 ↔ ∀ x ∈ ls, hasNL x = false := by
 unfold faultL
 rw [if_neg (by omega)]
 cases hf : ls.findIdx? hasNL with
 | none =>
  rw [List.findIdx?_eq_none_iff] at hf
  exact ⟨fun _ => hf, fun _ => rfl⟩
 | some i =>
  obtain ⟨hi, h1, -⟩ := List.findIdx?_eq_some_iff_getElem.1 hf
  refine ⟨fun e => absurd (show (13 : Int) = 0 from e) (by decide), fun e => ?_⟩
  rw [e _ (List.getElem_mem hi)] at h1
  cases h1
theorem fault_parts {ls : List (List UInt8)} (h : ls.length ≤ 150) (k : Nat) : (faultL ls).1 = 0 ↔ (faultL (ls.take k)).1 = 0 ∧ (faultL (ls.drop k)).1 = 0 := by
 rw [fault_iff h, fault_iff (by rw [List.length_take]; omega), fault_iff (by rw [List.length_drop]; omega)]
 constructor
 ·exact fun hx => ⟨fun x hm => hx x (List.mem_of_mem_take hm), fun x hm => hx x (List.mem_of_mem_drop hm)⟩
 ·intro ⟨h1, h2⟩ x hx
  rw [← List.take_append_drop k ls] at hx
  rcases List.mem_append.1 hx with hx | hx
  ·exact h1 x hx
  ·exact h2 x hx
theorem do_parts {ls : List (List UInt8)} {s : Gd} {k : Nat} (h : ls.length ≤ 150) (hf : (faultL ls).1 = 0) : doO s (ls.take k) ++ doO (doS s (ls.take k)) (ls.drop k) = doO s ls := by
 obtain ⟨h1, h2⟩ := (fault_parts h k).1 hf
 unfold doO doS
 rw [if_pos h1, if_pos h1, if_pos h2, if_pos hf]
 have := linesT_app s (ls.take k) (ls.drop k)
 rw [List.take_append_drop] at this
 rw [this]
end Go.Proofs.YtllnjiljjodfdacGreatDoor
