/-
 The program's numbersOf, orderOf, stepOf. Nothing here is claimed by itself.
-/
import Derived.Deep.RegionHeld3
import Derived.Shelf.GgClosure.Gives
import Derived.Lib.SlBy
import Derived.Deep.MidRow
import Derived.Test.YtllnjiljjodfdacGreatDoorQgEC
import Derived.Test.YtllnjiljjodfdacGreatDoorQgG2
import Derived.Test.YtllnjiljjodfdacGreatDoorQgE0
namespace Go.Proofs.YtllnjiljjodfdacGreatDoor
open Go.RowKit

theorem numbersP_bad {x : List UInt8} {r : List (List UInt8)} {k : Nat} {y : List UInt8} (hy : r[k]? = some y) (hn : numL y = none) : numbersP x r = none := by
 have hk : k < r.length := (List.getElem?_eq_some_iff.1 hy).1
 have e : r = r.take k ++ y :: r.drop (k + 1) := by
  have h1 := List.take_append_drop k r
  rw [List.drop_eq_getElem_cons hk, (List.getElem?_eq_some_iff.1 hy).2] at h1
  exact h1.symm
 have : r.mapM numL = none := by
  rw [e, List.mapM_append]
  cases h : (r.take k).mapM numL with
  | none => rfl
  | some ns => simp [hn]
 unfold numbersP
 rw [this]
 split <;> rfl
theorem mapM_snocP {l : List (List UInt8)} {ns : List Int} {x : List UInt8} {v : Int} (h : l.mapM numL = some ns) (hx : numL x = some v) : (l ++ [x]).mapM numL = some (ns ++ [v]) := by
 rw [List.mapM_append, h]
 simp [hx]
theorem intInfoC : (Tryz.prog.info? 3).map (fun i => (i.zero, i.size, i.bytes)) = some (some (.int .i64 0), 1, 8) := by kernel_rfl
set_option maxRecDepth 100000 in
set_option maxHeartbeats 4000000 in
theorem numbers_any (a : Option Addr) (m d : Nat) (x : List UInt8) (r : List (List UInt8)) (w : World) (hr : r.length = m) (hm : m ≤ 1000000) (hd : m ≤ d) (hl : ∀ y ∈ x :: r, y.length ≤ 1000000) (h : Strs w a (x :: r)) (hv : Vars w) :
  Calls Tryz.prog 27 #[.slice a (m + 1) (d + 1)] w fun e w' => ∃ v, e = .returned (.tuple #[v, .bool (numbersP x r).isSome]) ∧ (∀ ns, numbersP x r = some ns → w'.ownsRow w.heap.size 3 1 v ns.length (ns.map (.int .i64))) ∧ Chg [] w w' := by
 obtain ⟨i0, hi, hz0, hz1, hz2⟩ := kInfoParts intInfoC
 rcases h with h0 | ⟨g, off, rfl, hg, hc⟩
 ·cases h0
 have p0 : w.cell? ⟨g, off, none⟩ = some (.string (strA x)) := hc 0 x rfl
 have HC := hide hc
 have HL := hide hl
 have HV := hide hv
 have HR := hide hr
 clear hc hl hv hr
 have n0 : (0 : Int) < (m : Int) + 1 := by omega
 by_cases hcw : (m : Int) = countW x
 ·have b0 : ((m : Int) != countW x) = false := by simpa using hcw
  have HP := hide (show numbersP x r = r.mapM numL by unfold numbersP; rw [if_pos (by rw [unhide HR]; exact hcw)])
  clear hcw
  by_cases hd0 : d = 0
  ·obtain rfl : m = 0 := by omega
   have HA := hide (show numbersP x r = some [] by rw [unhide HP, List.eq_nil_of_length_eq_zero (unhide HR)]; rfl)
   subst hd0
   go_enter Tryz.func27, Tryz.ntmps27
   go_wp2_with (go_at_call 50; refine (count_any x _).mono ?_; rintro e w1 ⟨rfl, rfl⟩)
   clear b0 p0 n0
   go_loop [4, 20] (fun v i => v = .slice none 0 0 ∧ i = .int .i64 0) (fun _ _ => 0)
   case atStart => exact ⟨rfl, rfl⟩
   case round =>
    obtain ⟨rfl, rfl⟩ := hrel
    go_wp2
    go_ret2
    exact ⟨_, by rw [unhide HA]; rfl, (fun ms hms => by rw [unhide HA] at hms; cases hms; exact World.ownsRow_nil _ _ _ _), Chg.refl _ _⟩
  go_enter Tryz.func27, Tryz.ntmps27
  go_wp2_with (go_at_call 50; refine (count_any x _).mono ?_; rintro e w1 ⟨rfl, rfl⟩)
  clear b0 p0 n0
  go_loopw [4, 20] (fun v i wr => ∃ (k : Nat) (ns : List Int), k ≤ m ∧ i = .int .i64 k ∧ Hid ((r.take k).mapM numL = some ns) ∧ Hid (ns.length = k) ∧ wr.ownsRow w1.heap.size 3 1 v ns.length (ns.map (.int .i64)) ∧ Chg [] w1 wr) (fun _ i _ => m - (intOf i).toNat)
  case atStart => exact ⟨0, [], by omega, rfl, hide rfl, hide rfl, World.ownsRow_nil _ _ _ _, Chg.refl _ _⟩
  case round =>
   obtain ⟨k, ns, hk, rfl, HM, HNL, hown, hG⟩ := hrel
   by_cases hlt : k < m
   ·have hki : (k : Int) < (m : Int) := by omega
    have hk0 : (0 : Int) ≤ (k : Int) := by omega
    obtain ⟨y, hy⟩ : ∃ y, r[k]? = some y := ⟨_, List.getElem?_eq_getElem (by rw [unhide HR]; exact hlt)⟩
    have zG := hG.size
    have cy : wr.cell? ⟨g, off + 1 + k, none⟩ = some (.string (strA y)) := by
     rw [hG.cell' (p := ⟨g, off + 1 + k, none⟩) hg (by simp), show off + 1 + k = off + (k + 1) by omega]
     exact unhide HC (k + 1) y (by simpa using hy)
    have hyl := unhide HL y (List.mem_cons_of_mem _ (List.mem_of_getElem? hy))
    have HY := hide hy
    have OW := hide hown
    have HG := hide hG
    have hnb : ns.length ≤ 1000000 := by have := unhide HNL; omega
    clear hy hown hG
    cases hn : numL y with
    | none =>
     have HBAD := hide (numbersP_bad (x := x) (unhide HY) hn)
     have HN := hide hn
     clear hn
     go_wp2_with fail
     refine (number_any y _ hyl ((unhide HV).chg (unhide HG))).mono ?_
     rintro e w2 ⟨v2, rfl, -, g2⟩
     rw [unhide HN]
     have HG2 := hide ((unhide HG).trans g2 (by simp))
     clear g2
     simp only [Option.isSome_none]
     go_wp2
     go_ret2
     exact ⟨_, by rw [unhide HBAD]; rfl, (fun ns hns => by rw [unhide HBAD] at hns; cases hns), unhide HG2⟩
    | some u =>
     have HN := hide hn
     clear hn
     go_wp2_with fail
     refine (number_any y _ hyl ((unhide HV).chg (unhide HG))).mono ?_
     rintro e w2 ⟨v2, rfl, hu, g2⟩
     obtain rfl := hu u (unhide HN)
     rw [unhide HN]
     have O2 := own_chg (unhide OW) g2
     have G2 := (unhide HG).trans g2 (by simp)
     have z2 := G2.size
     have HT := hide (show (r.take (k + 1)).mapM numL = some (ns ++ [u]) by rw [List.take_add_one, unhide HY, Option.toList_some]; exact mapM_snocP (unhide HM) (unhide HN))
     clear g2 hu
     simp only [Option.isSome_some]
     go_wp2_with (at_builtin; refine wpList_append_own _ rfl (.tmp 31) (.tmp 33) 72 rfl w1.heap.size 3 i0 _ 1 8 Tryz.underlying72 hi hz0 hz1 hz2 rfl (by decide) u4 ns.length (ns.map (.int .i64)) rfl (O2.alloc _) ⟨w2.heap.size, 0, none⟩ 1 1 [.int .i64 u] rfl rfl (Blk.new w2 #[.int .i64 u] _).news (by simp [Value.oneCell']) (by unfold maxLen; omega) (by omega) (by simp; omega) ?_; intro v7 w7 own7 gr7 _; have G7 := (G2.alloc (.cells #[.int .i64 u] 3)).grown gr7 (fun y hy => .inr (O2.lt y hy).1); clear gr7)
     go_roundw
     case rel => exact ⟨k + 1, ns ++ [u], by omega, by go_num, HT, hide (by rw [List.length_append, unhide HNL]; rfl), by rw [List.map_append, List.length_append]; exact own7, G7⟩
     case measure => go_light; simp [intOf]; omega
   ·have hki : ¬ (k : Int) < (m : Int) := by omega
    have HA := hide (show numbersP x r = some ns by rw [unhide HP]; have := unhide HM; rw [List.take_of_length_le (by rw [unhide HR]; omega)] at this; exact this)
    have OW := hide hown
    have HG := hide hG
    clear hown hG
    go_wp2
    go_ret2
    exact ⟨_, by rw [unhide HA]; rfl, (fun ms hms => by rw [unhide HA] at hms; cases hms; exact unhide OW), unhide HG⟩
 ·have b0 : ((m : Int) != countW x) = true := by simpa using hcw
  have HP := hide (show numbersP x r = none by unfold numbersP; rw [if_neg (by rw [unhide HR]; exact hcw)])
  clear hcw
  go_enter Tryz.func27, Tryz.ntmps27
  go_wp2_with (go_at_call 50; refine (count_any x _).mono ?_; rintro e w1 ⟨rfl, rfl⟩)
  go_ret2
  exact ⟨_, by rw [unhide HP]; rfl, (fun ns hns => by rw [unhide HP] at hns; cases hns), Chg.refl _ _⟩
theorem ret_ord {fn : Func} {q : Tmp} (h : fn.results = #[.cell q 83]) {tmps : Array Value} {w : World} {c : Nat}
  (hq : tmps.getD q undef = .pointer (some ⟨c, 0, none⟩)) {ty'' : TypeId} {v0 v1 v2 v3 v4 v5 : Value} (hA : Blk w c #[v0, v1, v2, v3, v4, v5] ty'') :
  (results fn tmps).run Tryz.prog w = .ok (.agg #[v0, v1, v2, v3, v4, v5]) w := by
 have hc : w.rangeAt c 0 [v0, v1, v2, v3, v4, v5] := fun j v hv => by rw [Nat.zero_add, hA.cell]; simpa using hv
 have ha := run_loadVar_mid (P := Tryz.prog) w c 0 83 [v0, v1, v2, v3, v4, v5] _ hc Tryz.underlying83 rfl (by rw [ordInfoD]; rfl)
 have hq' : tmps[q]?.getD undef = .pointer (some ⟨c, 0, none⟩) := by simpa using hq
 simp only [results, h]
 simp [hq', asAddr, ha]
set_option maxRecDepth 100000 in
set_option maxHeartbeats 2000000 in
theorem orderof_add (g off c : Nat) (y0 : Int) (w : World) (hg : g < w.heap.size) (c0 : w.cell? ⟨g, off, none⟩ = some (.int .i64 y0)) :
  Calls Tryz.prog 63 #[.string (strA wAdd), .slice (some ⟨g, off, none⟩) 1 c] w fun e w' => e = .returned (odV ⟨1, 0, y0, 0, 0, 0⟩) ∧ Chg [] w w' := by
 have b0 := eqw (x := wAdd) (l := [97, 100, 100]) (by decide)
 unfold odV
 go_enter Tryz.func63, Tryz.ntmps63
 go_wp2
 all_goals exact bodyPost_ret (ret_ord rfl rfl (Blk.new w _ _)) rfl ⟨rfl, (Chg.refl _ _).alloc _⟩
set_option maxRecDepth 100000 in
set_option maxHeartbeats 2000000 in
theorem orderof_take (g off c : Nat) (y0 y1 : Int) (w : World) (hg : g < w.heap.size) (c0 : w.cell? ⟨g, off, none⟩ = some (.int .i64 y0)) (c1 : w.cell? ⟨g, off + 1, none⟩ = some (.int .i64 y1)) :
  Calls Tryz.prog 63 #[.string (strA wTake), .slice (some ⟨g, off, none⟩) 2 c] w fun e w' => e = .returned (odV ⟨2, 0, 0, 0, y0, y1⟩) ∧ Chg [] w w' := by
 have b0 := neqw (x := wTake) (l := [97, 100, 100]) (by decide)
 have b1 := eqw (x := wTake) (l := [116, 97, 107, 101]) (by decide)
 unfold odV
 go_enter Tryz.func63, Tryz.ntmps63
 go_upto_region 5 with fail
 go_region
 all_goals go_wp2
 all_goals exact bodyPost_ret (ret_ord rfl rfl (Blk.new w _ _)) rfl ⟨rfl, ((Chg.refl _ _).alloc _).drew⟩
set_option maxRecDepth 100000 in
set_option maxHeartbeats 2000000 in
theorem orderof_renew (g off c : Nat) (y0 y1 y2 y3 : Int) (w : World) (hg : g < w.heap.size) (c0 : w.cell? ⟨g, off, none⟩ = some (.int .i64 y0)) (c1 : w.cell? ⟨g, off + 1, none⟩ = some (.int .i64 y1)) (c2 : w.cell? ⟨g, off + 2, none⟩ = some (.int .i64 y2)) (c3 : w.cell? ⟨g, off + 3, none⟩ = some (.int .i64 y3)) :
  Calls Tryz.prog 63 #[.string (strA wRenew), .slice (some ⟨g, off, none⟩) 4 c] w fun e w' => e = .returned (odV ⟨3, 0, y0, y1, y2, y3⟩) ∧ Chg [] w w' := by
 have b0 := neqw (x := wRenew) (l := [97, 100, 100]) (by decide)
 have b1 := neqw (x := wRenew) (l := [116, 97, 107, 101]) (by decide)
 have b2 := eqw (x := wRenew) (l := [114, 101, 110, 101, 119]) (by decide)
 unfold odV
 go_enter Tryz.func63, Tryz.ntmps63
 go_upto_region 7 with fail
 go_region
 all_goals go_wp2
 all_goals exact bodyPost_ret (ret_ord rfl rfl (Blk.new w _ _)) rfl ⟨rfl, ((Chg.refl _ _).alloc _).drew⟩
set_option maxRecDepth 100000 in
set_option maxHeartbeats 2000000 in
theorem orderof_done (g off c : Nat) (y0 y1 y2 : Int) (w : World) (hg : g < w.heap.size) (c0 : w.cell? ⟨g, off, none⟩ = some (.int .i64 y0)) (c1 : w.cell? ⟨g, off + 1, none⟩ = some (.int .i64 y1)) (c2 : w.cell? ⟨g, off + 2, none⟩ = some (.int .i64 y2)) :
  Calls Tryz.prog 63 #[.string (strA wDone), .slice (some ⟨g, off, none⟩) 3 c] w fun e w' => e = .returned (odV ⟨4, 0, y0, y1, y2, 0⟩) ∧ Chg [] w w' := by
 have b0 := neqw (x := wDone) (l := [97, 100, 100]) (by decide)
 have b1 := neqw (x := wDone) (l := [116, 97, 107, 101]) (by decide)
 have b2 := neqw (x := wDone) (l := [114, 101, 110, 101, 119]) (by decide)
 have b3 := eqw (x := wDone) (l := [100, 111, 110, 101]) (by decide)
 unfold odV
 go_enter Tryz.func63, Tryz.ntmps63
 go_upto_region 9 with fail
 go_region
 all_goals go_wp2
 all_goals exact bodyPost_ret (ret_ord rfl rfl (Blk.new w _ _)) rfl ⟨rfl, ((Chg.refl _ _).alloc _).drew⟩
set_option maxRecDepth 100000 in
set_option maxHeartbeats 2000000 in
theorem orderof_drop (g off c : Nat) (y0 y1 y2 : Int) (w : World) (hg : g < w.heap.size) (c0 : w.cell? ⟨g, off, none⟩ = some (.int .i64 y0)) (c1 : w.cell? ⟨g, off + 1, none⟩ = some (.int .i64 y1)) (c2 : w.cell? ⟨g, off + 2, none⟩ = some (.int .i64 y2)) :
  Calls Tryz.prog 63 #[.string (strA wDrop), .slice (some ⟨g, off, none⟩) 3 c] w fun e w' => e = .returned (odV ⟨5, 0, y0, y1, y2, 0⟩) ∧ Chg [] w w' := by
 have b0 := neqw (x := wDrop) (l := [97, 100, 100]) (by decide)
 have b1 := neqw (x := wDrop) (l := [116, 97, 107, 101]) (by decide)
 have b2 := neqw (x := wDrop) (l := [114, 101, 110, 101, 119]) (by decide)
 have b3 := neqw (x := wDrop) (l := [100, 111, 110, 101]) (by decide)
 have b4 := eqw (x := wDrop) (l := [100, 114, 111, 112]) (by decide)
 unfold odV
 go_enter Tryz.func63, Tryz.ntmps63
 go_upto_region 11 with fail
 go_region
 all_goals go_wp2
 all_goals exact bodyPost_ret (ret_ord rfl rfl (Blk.new w _ _)) rfl ⟨rfl, ((Chg.refl _ _).alloc _).drew⟩
theorem lenD1 {l : List Int} (h : l.length = 1) : ∃ a, l = [a] := by
 match l, h with
 | [a], _ => exact ⟨a, rfl⟩
theorem lenD2 {l : List Int} (h : l.length = 2) : ∃ a b, l = [a, b] := by
 match l, h with
 | [a, b], _ => exact ⟨a, b, rfl⟩
theorem lenD3 {l : List Int} (h : l.length = 3) : ∃ a b c, l = [a, b, c] := by
 match l, h with
 | [a, b, c], _ => exact ⟨a, b, c, rfl⟩
theorem lenD4 {l : List Int} (h : l.length = 4) : ∃ a b c d, l = [a, b, c, d] := by
 match l, h with
 | [a, b, c, d], _ => exact ⟨a, b, c, d, rfl⟩
theorem lenD5 {l : List Int} (h : l.length = 5) : ∃ a b c d e, l = [a, b, c, d, e] := by
 match l, h with
 | [a, b, c, d, e], _ => exact ⟨a, b, c, d, e, rfl⟩
theorem Blk.thereD {w : World} {b : Nat} {c : Array Value} {t : TypeId} (h : Blk w b c t) {n : Nat} (hn : n ≤ c.size) : w.there b 0 n := fun j hj => ⟨by rw [Nat.zero_add, h.cell, Array.getElem?_eq_getElem (by omega)]; rfl, by rw [Nat.zero_add]; exact h.fz j⟩
theorem Blk.wholeD {w : World} {b : Nat} {c : Array Value} {ty : TypeId} (h : Blk w b c ty) (d : Array Value) (hd : d.size = c.size) : Blk (w.setCells b 0 d.toList) b d ty := by
 obtain ⟨c', h1, h2, h3⟩ := setCells_raw b ty d.toList 0 w c h
 have : c' = d := by
  apply Array.ext_getElem?
  intro i
  rw [h3 i]
  by_cases hi : i < d.size
  ·rw [if_pos ⟨Nat.zero_le _, by simpa using hi, by omega⟩]; simp
  ·rw [if_neg (by rw [← hd]; omega), Array.getElem?_eq_none (by omega), Array.getElem?_eq_none (by omega)]
 subst this
 exact h1
theorem spInfoD : (Tryz.prog.info? 85).map (·.size) = some 9 := by kernel_rfl
theorem ret_sp {fn : Func} {q : Tmp} (h : fn.results = #[.cell q 85]) {tmps : Array Value} {w : World} {c : Nat}
  (hq : tmps.getD q undef = .pointer (some ⟨c, 0, none⟩)) {ty'' : TypeId} {v0 v1 v2 v3 v4 v5 v6 v7 v8 : Value} (hA : Blk w c #[v0, v1, v2, v3, v4, v5, v6, v7, v8] ty'') :
  (results fn tmps).run Tryz.prog w = .ok (.agg #[v0, v1, v2, v3, v4, v5, v6, v7, v8]) w := by
 have hc : w.rangeAt c 0 [v0, v1, v2, v3, v4, v5, v6, v7, v8] := fun j v hv => by rw [Nat.zero_add, hA.cell]; simpa using hv
 have ha := run_loadVar_mid (P := Tryz.prog) w c 0 85 [v0, v1, v2, v3, v4, v5, v6, v7, v8] _ hc Tryz.underlying85 rfl (by rw [spInfoD]; rfl)
 have hq' : tmps[q]?.getD undef = .pointer (some ⟨c, 0, none⟩) := by simpa using hq
 simp only [results, h]
 simp [hq', asAddr, ha]
set_option maxRecDepth 100000 in
set_option maxHeartbeats 2000000 in
theorem stepof_open (g off d : Nat) (y0 : Int) (w : World) (hg : g < w.heap.size) (c0 : w.cell? ⟨g, off, none⟩ = some (.int .i64 y0)) :
  Calls Tryz.prog 37 #[.string (strA wOpen), .slice (some ⟨g, off, none⟩) 1 (d + 1)] w fun e w' => e = .returned (spV ⟨1, y0, 0, ⟨0, 0, 0, 0, 0, 0⟩⟩) ∧ Chg [] w w' := by
 have b0 := eqw (x := wOpen) (l := [111, 112, 101, 110]) (by decide)
 unfold spV spC
 go_enter Tryz.func37, Tryz.ntmps37
 go_wp2
 exact bodyPost_ret (ret_sp rfl rfl (Blk.new w _ _)) rfl ⟨rfl, (Chg.refl _ _).alloc _⟩
set_option maxRecDepth 100000 in
set_option maxHeartbeats 2000000 in
theorem stepof_down (g off d : Nat) (y0 : Int) (w : World) (hg : g < w.heap.size) (c0 : w.cell? ⟨g, off, none⟩ = some (.int .i64 y0)) :
  Calls Tryz.prog 37 #[.string (strA wDown), .slice (some ⟨g, off, none⟩) 1 (d + 1)] w fun e w' => e = .returned (spV ⟨4, y0, 0, ⟨0, 0, 0, 0, 0, 0⟩⟩) ∧ Chg [] w w' := by
 have b0 := neqw (x := wDown) (l := [111, 112, 101, 110]) (by decide)
 have b1 := eqw (x := wDown) (l := [100, 111, 119, 110]) (by decide)
 unfold spV spC
 go_enter Tryz.func37, Tryz.ntmps37
 go_wp2
 exact bodyPost_ret (ret_sp rfl rfl (Blk.new w _ _)) rfl ⟨rfl, (Chg.refl _ _).alloc _⟩
set_option maxRecDepth 100000 in
set_option maxHeartbeats 2000000 in
theorem stepof_tick (g off d : Nat) (y0 : Int) (w : World) (hg : g < w.heap.size) (c0 : w.cell? ⟨g, off, none⟩ = some (.int .i64 y0)) :
  Calls Tryz.prog 37 #[.string (strA wTick), .slice (some ⟨g, off, none⟩) 1 (d + 1)] w fun e w' => e = .returned (spV ⟨5, y0, 0, ⟨0, 0, 0, 0, 0, 0⟩⟩) ∧ Chg [] w w' := by
 have b0 := neqw (x := wTick) (l := [111, 112, 101, 110]) (by decide)
 have b1 := neqw (x := wTick) (l := [100, 111, 119, 110]) (by decide)
 have b2 := eqw (x := wTick) (l := [116, 105, 99, 107]) (by decide)
 unfold spV spC
 go_enter Tryz.func37, Tryz.ntmps37
 go_wp2
 exact bodyPost_ret (ret_sp rfl rfl (Blk.new w _ _)) rfl ⟨rfl, (Chg.refl _ _).alloc _⟩
set_option maxRecDepth 100000 in
set_option maxHeartbeats 2000000 in
theorem stepof_add (g off d : Nat) (y0 y1 : Int) (w : World) (hg : g < w.heap.size) (c0 : w.cell? ⟨g, off, none⟩ = some (.int .i64 y0)) (c1 : w.cell? ⟨g, off + 1, none⟩ = some (.int .i64 y1)) :
  Calls Tryz.prog 37 #[.string (strA wAdd), .slice (some ⟨g, off, none⟩) 2 (d + 2)] w fun e w' => e = .returned (spV ⟨2, y0, 0, ⟨1, 0, y1, 0, 0, 0⟩⟩) ∧ Chg [] w w' := by
 have b0 := neqw (x := wAdd) (l := [111, 112, 101, 110]) (by decide)
 have b1 := neqw (x := wAdd) (l := [100, 111, 119, 110]) (by decide)
 have b2 := neqw (x := wAdd) (l := [116, 105, 99, 107]) (by decide)
 have b3 := eqw (x := wAdd) (l := [97, 100, 100]) (by decide)
 unfold spV spC
 go_enter Tryz.func37, Tryz.ntmps37
 go_upto_region 13 with fail
 have k0 : Chg [] w (w.alloc (.cells #[.int .i64 0, .int .i64 0, .int .i64 0, .int .i64 0, .int .i64 0, .int .i64 0, .int .i64 0, .int .i64 0, .int .i64 0] 85)) := (Chg.refl [] w).alloc _
 have B0 := Blk.new w #[.int .i64 0, .int .i64 0, .int .i64 0, .int .i64 0, .int .i64 0, .int .i64 0, .int .i64 0, .int .i64 0, .int .i64 0] 85
 generalize w.alloc (.cells #[.int .i64 0, .int .i64 0, .int .i64 0, .int .i64 0, .int .i64 0, .int .i64 0, .int .i64 0, .int .i64 0, .int .i64 0] 85) = w1 at *
 have d0 := (k0.cell' (p := ⟨g, off, none⟩) hg (by simp)).trans c0
 have d1 := (k0.cell' (p := ⟨g, off + 1, none⟩) hg (by simp)).trans c1
 have hg1 := Nat.lt_of_lt_of_le hg k0.size
 clear c0 c1
 have hS0 : w1.drew.cell? ⟨g, off, none⟩ = some (.int .i64 y0) := d0
 refine wp_region_noPanic ?_
 refine wp_region_held_drew (S := (fun w' => w'.cell? ⟨g, off, none⟩ = some (.int .i64 y0))) (by kernel_rfl) hS0 (fun hH => ?_)
 refine tk 0 rfl hH ?_
 walk_nrm
 refine tk 1 rfl hH ?_
 walk_nrm
 refine tk 2 rfl hH ?_
 walk_nrm
 refine tk 3 rfl hH ?_
 walk_nrm
 refine tk 4 rfl hH ?_
 walk_nrm
 refine tk 5 rfl hH ?_
 walk_nrm
 refine rd 6 rfl (fun K hK => ?_)
 go_simp
 refine (orderof_add g (off + 1) _ y1 w1.drew hg1 d1).mono ?_
 rintro e w6 ⟨rfl, g6⟩
 have B6 := Blk.chg (show Blk w1.drew _ _ _ from B0) g6 (by simp)
 have G6 := (k0.drew).trans g6 (by simp)
 have S6 : w6.cell? ⟨g, off, none⟩ = some (.int .i64 y0) := (g6.cell' (p := ⟨g, off, none⟩) hg1 (by simp)).trans d0
 refine hK.out _ _ S6 (fun hH2 => ?_)
 clear hK K hH
 have hH := hH2
 clear hH2
 walk_nrm
 unfold odV
 refine tk 7 rfl hH ?_
 walk_nrm
 refine rd 8 rfl (fun K hK => ?_)
 refine wp_store_mid 85 _ _ rfl w.heap.size 0 _ rfl rfl (B6.thereD (Nat.le_of_eq rfl)) (by rw [spInfoD]; rfl) (by simp [Value.oneCell']) ?_
 have B7 := B6.wholeD #[.int .i64 2, .int .i64 y0, .int .i64 0, .int .i64 1, .int .i64 0, .int .i64 y1, .int .i64 0, .int .i64 0, .int .i64 0] rfl
 have G7 := G6.setAll (b := w.heap.size) (.inr (Nat.le_refl _)) 0 (#[.int .i64 2, .int .i64 y0, .int .i64 0, .int .i64 1, .int .i64 0, .int .i64 y1, .int .i64 0, .int .i64 0, .int .i64 0] : Array Value).toList
 have S7 : (w6.setCells w.heap.size 0 (#[.int .i64 2, .int .i64 y0, .int .i64 0, .int .i64 1, .int .i64 0, .int .i64 y1, .int .i64 0, .int .i64 0, .int .i64 0] : Array Value).toList).cell? ⟨g, off, none⟩ = some (.int .i64 y0) := (((Chg.refl [w.heap.size] w6).setAll (.inl (by simp)) 0 _).cell' (p := ⟨g, off, none⟩) (Nat.lt_of_lt_of_le hg G6.size) (by simp; omega)).trans S6
 refine hK.out _ _ S7 (fun hH2 => ?_)
 clear hK K hH
 have hH := hH2
 clear hH2
 walk_nrm
 refine wpAnyH_done (by kernel_rfl) ?_ _
 refine NoPanic.normal ?_
 clear hH S7
 generalize w6.setCells w.heap.size 0 (#[.int .i64 2, .int .i64 y0, .int .i64 0, .int .i64 1, .int .i64 0, .int .i64 y1, .int .i64 0, .int .i64 0, .int .i64 0] : Array Value).toList = w7 at *
 go_wp2
 exact bodyPost_ret (ret_sp rfl rfl B7) rfl ⟨rfl, G7⟩
set_option maxRecDepth 100000 in
set_option maxHeartbeats 2000000 in
theorem stepof_take (g off d : Nat) (y0 y1 y2 : Int) (w : World) (hg : g < w.heap.size) (c0 : w.cell? ⟨g, off, none⟩ = some (.int .i64 y0)) (c1 : w.cell? ⟨g, off + 1, none⟩ = some (.int .i64 y1)) (c2 : w.cell? ⟨g, off + 2, none⟩ = some (.int .i64 y2)) :
  Calls Tryz.prog 37 #[.string (strA wTake), .slice (some ⟨g, off, none⟩) 3 (d + 3)] w fun e w' => e = .returned (spV ⟨2, y0, 0, ⟨2, 0, 0, 0, y1, y2⟩⟩) ∧ Chg [] w w' := by
 have b0 := neqw (x := wTake) (l := [111, 112, 101, 110]) (by decide)
 have b1 := neqw (x := wTake) (l := [100, 111, 119, 110]) (by decide)
 have b2 := neqw (x := wTake) (l := [116, 105, 99, 107]) (by decide)
 have b3 := neqw (x := wTake) (l := [97, 100, 100]) (by decide)
 have b4 := eqw (x := wTake) (l := [116, 97, 107, 101]) (by decide)
 unfold spV spC
 go_enter Tryz.func37, Tryz.ntmps37
 go_upto_region 13 with fail
 have k0 : Chg [] w (w.alloc (.cells #[.int .i64 0, .int .i64 0, .int .i64 0, .int .i64 0, .int .i64 0, .int .i64 0, .int .i64 0, .int .i64 0, .int .i64 0] 85)) := (Chg.refl [] w).alloc _
 have B0 := Blk.new w #[.int .i64 0, .int .i64 0, .int .i64 0, .int .i64 0, .int .i64 0, .int .i64 0, .int .i64 0, .int .i64 0, .int .i64 0] 85
 generalize w.alloc (.cells #[.int .i64 0, .int .i64 0, .int .i64 0, .int .i64 0, .int .i64 0, .int .i64 0, .int .i64 0, .int .i64 0, .int .i64 0] 85) = w1 at *
 have d0 := (k0.cell' (p := ⟨g, off, none⟩) hg (by simp)).trans c0
 have d1 := (k0.cell' (p := ⟨g, off + 1, none⟩) hg (by simp)).trans c1
 have d2 := (k0.cell' (p := ⟨g, off + 2, none⟩) hg (by simp)).trans c2
 have hg1 := Nat.lt_of_lt_of_le hg k0.size
 clear c0 c1 c2
 have hS0 : w1.drew.cell? ⟨g, off, none⟩ = some (.int .i64 y0) := d0
 refine wp_region_noPanic ?_
 refine wp_region_held_drew (S := (fun w' => w'.cell? ⟨g, off, none⟩ = some (.int .i64 y0))) (by kernel_rfl) hS0 (fun hH => ?_)
 refine tk 0 rfl hH ?_
 walk_nrm
 refine tk 1 rfl hH ?_
 walk_nrm
 refine tk 2 rfl hH ?_
 walk_nrm
 refine tk 3 rfl hH ?_
 walk_nrm
 refine tk 4 rfl hH ?_
 walk_nrm
 refine tk 5 rfl hH ?_
 walk_nrm
 refine rd 6 rfl (fun K hK => ?_)
 go_simp
 refine (orderof_take g (off + 1) _ y1 y2 w1.drew hg1 d1 d2).mono ?_
 rintro e w6 ⟨rfl, g6⟩
 have B6 := Blk.chg (show Blk w1.drew _ _ _ from B0) g6 (by simp)
 have G6 := (k0.drew).trans g6 (by simp)
 have S6 : w6.cell? ⟨g, off, none⟩ = some (.int .i64 y0) := (g6.cell' (p := ⟨g, off, none⟩) hg1 (by simp)).trans d0
 refine hK.out _ _ S6 (fun hH2 => ?_)
 clear hK K hH
 have hH := hH2
 clear hH2
 walk_nrm
 unfold odV
 refine tk 7 rfl hH ?_
 walk_nrm
 refine rd 8 rfl (fun K hK => ?_)
 refine wp_store_mid 85 _ _ rfl w.heap.size 0 _ rfl rfl (B6.thereD (Nat.le_of_eq rfl)) (by rw [spInfoD]; rfl) (by simp [Value.oneCell']) ?_
 have B7 := B6.wholeD #[.int .i64 2, .int .i64 y0, .int .i64 0, .int .i64 2, .int .i64 0, .int .i64 0, .int .i64 0, .int .i64 y1, .int .i64 y2] rfl
 have G7 := G6.setAll (b := w.heap.size) (.inr (Nat.le_refl _)) 0 (#[.int .i64 2, .int .i64 y0, .int .i64 0, .int .i64 2, .int .i64 0, .int .i64 0, .int .i64 0, .int .i64 y1, .int .i64 y2] : Array Value).toList
 have S7 : (w6.setCells w.heap.size 0 (#[.int .i64 2, .int .i64 y0, .int .i64 0, .int .i64 2, .int .i64 0, .int .i64 0, .int .i64 0, .int .i64 y1, .int .i64 y2] : Array Value).toList).cell? ⟨g, off, none⟩ = some (.int .i64 y0) := (((Chg.refl [w.heap.size] w6).setAll (.inl (by simp)) 0 _).cell' (p := ⟨g, off, none⟩) (Nat.lt_of_lt_of_le hg G6.size) (by simp; omega)).trans S6
 refine hK.out _ _ S7 (fun hH2 => ?_)
 clear hK K hH
 have hH := hH2
 clear hH2
 walk_nrm
 refine wpAnyH_done (by kernel_rfl) ?_ _
 refine NoPanic.normal ?_
 clear hH S7
 generalize w6.setCells w.heap.size 0 (#[.int .i64 2, .int .i64 y0, .int .i64 0, .int .i64 2, .int .i64 0, .int .i64 0, .int .i64 0, .int .i64 y1, .int .i64 y2] : Array Value).toList = w7 at *
 go_wp2
 exact bodyPost_ret (ret_sp rfl rfl B7) rfl ⟨rfl, G7⟩
set_option maxRecDepth 100000 in
set_option maxHeartbeats 2000000 in
theorem stepof_renew (g off d : Nat) (y0 y1 y2 y3 y4 : Int) (w : World) (hg : g < w.heap.size) (c0 : w.cell? ⟨g, off, none⟩ = some (.int .i64 y0)) (c1 : w.cell? ⟨g, off + 1, none⟩ = some (.int .i64 y1)) (c2 : w.cell? ⟨g, off + 2, none⟩ = some (.int .i64 y2)) (c3 : w.cell? ⟨g, off + 3, none⟩ = some (.int .i64 y3)) (c4 : w.cell? ⟨g, off + 4, none⟩ = some (.int .i64 y4)) :
  Calls Tryz.prog 37 #[.string (strA wRenew), .slice (some ⟨g, off, none⟩) 5 (d + 5)] w fun e w' => e = .returned (spV ⟨2, y0, 0, ⟨3, 0, y1, y2, y3, y4⟩⟩) ∧ Chg [] w w' := by
 have b0 := neqw (x := wRenew) (l := [111, 112, 101, 110]) (by decide)
 have b1 := neqw (x := wRenew) (l := [100, 111, 119, 110]) (by decide)
 have b2 := neqw (x := wRenew) (l := [116, 105, 99, 107]) (by decide)
 have b3 := neqw (x := wRenew) (l := [97, 100, 100]) (by decide)
 have b4 := neqw (x := wRenew) (l := [116, 97, 107, 101]) (by decide)
 have b5 := eqw (x := wRenew) (l := [114, 101, 110, 101, 119]) (by decide)
 unfold spV spC
 go_enter Tryz.func37, Tryz.ntmps37
 go_upto_region 13 with fail
 have k0 : Chg [] w (w.alloc (.cells #[.int .i64 0, .int .i64 0, .int .i64 0, .int .i64 0, .int .i64 0, .int .i64 0, .int .i64 0, .int .i64 0, .int .i64 0] 85)) := (Chg.refl [] w).alloc _
 have B0 := Blk.new w #[.int .i64 0, .int .i64 0, .int .i64 0, .int .i64 0, .int .i64 0, .int .i64 0, .int .i64 0, .int .i64 0, .int .i64 0] 85
 generalize w.alloc (.cells #[.int .i64 0, .int .i64 0, .int .i64 0, .int .i64 0, .int .i64 0, .int .i64 0, .int .i64 0, .int .i64 0, .int .i64 0] 85) = w1 at *
 have d0 := (k0.cell' (p := ⟨g, off, none⟩) hg (by simp)).trans c0
 have d1 := (k0.cell' (p := ⟨g, off + 1, none⟩) hg (by simp)).trans c1
 have d2 := (k0.cell' (p := ⟨g, off + 2, none⟩) hg (by simp)).trans c2
 have d3 := (k0.cell' (p := ⟨g, off + 3, none⟩) hg (by simp)).trans c3
 have d4 := (k0.cell' (p := ⟨g, off + 4, none⟩) hg (by simp)).trans c4
 have hg1 := Nat.lt_of_lt_of_le hg k0.size
 clear c0 c1 c2 c3 c4
 have hS0 : w1.drew.cell? ⟨g, off, none⟩ = some (.int .i64 y0) := d0
 refine wp_region_noPanic ?_
 refine wp_region_held_drew (S := (fun w' => w'.cell? ⟨g, off, none⟩ = some (.int .i64 y0))) (by kernel_rfl) hS0 (fun hH => ?_)
 refine tk 0 rfl hH ?_
 walk_nrm
 refine tk 1 rfl hH ?_
 walk_nrm
 refine tk 2 rfl hH ?_
 walk_nrm
 refine tk 3 rfl hH ?_
 walk_nrm
 refine tk 4 rfl hH ?_
 walk_nrm
 refine tk 5 rfl hH ?_
 walk_nrm
 refine rd 6 rfl (fun K hK => ?_)
 go_simp
 refine (orderof_renew g (off + 1) _ y1 y2 y3 y4 w1.drew hg1 d1 d2 d3 d4).mono ?_
 rintro e w6 ⟨rfl, g6⟩
 have B6 := Blk.chg (show Blk w1.drew _ _ _ from B0) g6 (by simp)
 have G6 := (k0.drew).trans g6 (by simp)
 have S6 : w6.cell? ⟨g, off, none⟩ = some (.int .i64 y0) := (g6.cell' (p := ⟨g, off, none⟩) hg1 (by simp)).trans d0
 refine hK.out _ _ S6 (fun hH2 => ?_)
 clear hK K hH
 have hH := hH2
 clear hH2
 walk_nrm
 unfold odV
 refine tk 7 rfl hH ?_
 walk_nrm
 refine rd 8 rfl (fun K hK => ?_)
 refine wp_store_mid 85 _ _ rfl w.heap.size 0 _ rfl rfl (B6.thereD (Nat.le_of_eq rfl)) (by rw [spInfoD]; rfl) (by simp [Value.oneCell']) ?_
 have B7 := B6.wholeD #[.int .i64 2, .int .i64 y0, .int .i64 0, .int .i64 3, .int .i64 0, .int .i64 y1, .int .i64 y2, .int .i64 y3, .int .i64 y4] rfl
 have G7 := G6.setAll (b := w.heap.size) (.inr (Nat.le_refl _)) 0 (#[.int .i64 2, .int .i64 y0, .int .i64 0, .int .i64 3, .int .i64 0, .int .i64 y1, .int .i64 y2, .int .i64 y3, .int .i64 y4] : Array Value).toList
 have S7 : (w6.setCells w.heap.size 0 (#[.int .i64 2, .int .i64 y0, .int .i64 0, .int .i64 3, .int .i64 0, .int .i64 y1, .int .i64 y2, .int .i64 y3, .int .i64 y4] : Array Value).toList).cell? ⟨g, off, none⟩ = some (.int .i64 y0) := (((Chg.refl [w.heap.size] w6).setAll (.inl (by simp)) 0 _).cell' (p := ⟨g, off, none⟩) (Nat.lt_of_lt_of_le hg G6.size) (by simp; omega)).trans S6
 refine hK.out _ _ S7 (fun hH2 => ?_)
 clear hK K hH
 have hH := hH2
 clear hH2
 walk_nrm
 refine wpAnyH_done (by kernel_rfl) ?_ _
 refine NoPanic.normal ?_
 clear hH S7
 generalize w6.setCells w.heap.size 0 (#[.int .i64 2, .int .i64 y0, .int .i64 0, .int .i64 3, .int .i64 0, .int .i64 y1, .int .i64 y2, .int .i64 y3, .int .i64 y4] : Array Value).toList = w7 at *
 go_wp2
 exact bodyPost_ret (ret_sp rfl rfl B7) rfl ⟨rfl, G7⟩
set_option maxRecDepth 100000 in
set_option maxHeartbeats 2000000 in
theorem stepof_done (g off d : Nat) (y0 y1 y2 y3 : Int) (w : World) (hg : g < w.heap.size) (c0 : w.cell? ⟨g, off, none⟩ = some (.int .i64 y0)) (c1 : w.cell? ⟨g, off + 1, none⟩ = some (.int .i64 y1)) (c2 : w.cell? ⟨g, off + 2, none⟩ = some (.int .i64 y2)) (c3 : w.cell? ⟨g, off + 3, none⟩ = some (.int .i64 y3)) :
  Calls Tryz.prog 37 #[.string (strA wDone), .slice (some ⟨g, off, none⟩) 4 (d + 4)] w fun e w' => e = .returned (spV ⟨2, y0, 0, ⟨4, 0, y1, y2, y3, 0⟩⟩) ∧ Chg [] w w' := by
 have b0 := neqw (x := wDone) (l := [111, 112, 101, 110]) (by decide)
 have b1 := neqw (x := wDone) (l := [100, 111, 119, 110]) (by decide)
 have b2 := neqw (x := wDone) (l := [116, 105, 99, 107]) (by decide)
 have b3 := neqw (x := wDone) (l := [97, 100, 100]) (by decide)
 have b4 := neqw (x := wDone) (l := [116, 97, 107, 101]) (by decide)
 have b5 := neqw (x := wDone) (l := [114, 101, 110, 101, 119]) (by decide)
 have b6 := eqw (x := wDone) (l := [100, 111, 110, 101]) (by decide)
 unfold spV spC
 go_enter Tryz.func37, Tryz.ntmps37
 go_upto_region 13 with fail
 have k0 : Chg [] w (w.alloc (.cells #[.int .i64 0, .int .i64 0, .int .i64 0, .int .i64 0, .int .i64 0, .int .i64 0, .int .i64 0, .int .i64 0, .int .i64 0] 85)) := (Chg.refl [] w).alloc _
 have B0 := Blk.new w #[.int .i64 0, .int .i64 0, .int .i64 0, .int .i64 0, .int .i64 0, .int .i64 0, .int .i64 0, .int .i64 0, .int .i64 0] 85
 generalize w.alloc (.cells #[.int .i64 0, .int .i64 0, .int .i64 0, .int .i64 0, .int .i64 0, .int .i64 0, .int .i64 0, .int .i64 0, .int .i64 0] 85) = w1 at *
 have d0 := (k0.cell' (p := ⟨g, off, none⟩) hg (by simp)).trans c0
 have d1 := (k0.cell' (p := ⟨g, off + 1, none⟩) hg (by simp)).trans c1
 have d2 := (k0.cell' (p := ⟨g, off + 2, none⟩) hg (by simp)).trans c2
 have d3 := (k0.cell' (p := ⟨g, off + 3, none⟩) hg (by simp)).trans c3
 have hg1 := Nat.lt_of_lt_of_le hg k0.size
 clear c0 c1 c2 c3
 have hS0 : w1.drew.cell? ⟨g, off, none⟩ = some (.int .i64 y0) := d0
 refine wp_region_noPanic ?_
 refine wp_region_held_drew (S := (fun w' => w'.cell? ⟨g, off, none⟩ = some (.int .i64 y0))) (by kernel_rfl) hS0 (fun hH => ?_)
 refine tk 0 rfl hH ?_
 walk_nrm
 refine tk 1 rfl hH ?_
 walk_nrm
 refine tk 2 rfl hH ?_
 walk_nrm
 refine tk 3 rfl hH ?_
 walk_nrm
 refine tk 4 rfl hH ?_
 walk_nrm
 refine tk 5 rfl hH ?_
 walk_nrm
 refine rd 6 rfl (fun K hK => ?_)
 go_simp
 refine (orderof_done g (off + 1) _ y1 y2 y3 w1.drew hg1 d1 d2 d3).mono ?_
 rintro e w6 ⟨rfl, g6⟩
 have B6 := Blk.chg (show Blk w1.drew _ _ _ from B0) g6 (by simp)
 have G6 := (k0.drew).trans g6 (by simp)
 have S6 : w6.cell? ⟨g, off, none⟩ = some (.int .i64 y0) := (g6.cell' (p := ⟨g, off, none⟩) hg1 (by simp)).trans d0
 refine hK.out _ _ S6 (fun hH2 => ?_)
 clear hK K hH
 have hH := hH2
 clear hH2
 walk_nrm
 unfold odV
 refine tk 7 rfl hH ?_
 walk_nrm
 refine rd 8 rfl (fun K hK => ?_)
 refine wp_store_mid 85 _ _ rfl w.heap.size 0 _ rfl rfl (B6.thereD (Nat.le_of_eq rfl)) (by rw [spInfoD]; rfl) (by simp [Value.oneCell']) ?_
 have B7 := B6.wholeD #[.int .i64 2, .int .i64 y0, .int .i64 0, .int .i64 4, .int .i64 0, .int .i64 y1, .int .i64 y2, .int .i64 y3, .int .i64 0] rfl
 have G7 := G6.setAll (b := w.heap.size) (.inr (Nat.le_refl _)) 0 (#[.int .i64 2, .int .i64 y0, .int .i64 0, .int .i64 4, .int .i64 0, .int .i64 y1, .int .i64 y2, .int .i64 y3, .int .i64 0] : Array Value).toList
 have S7 : (w6.setCells w.heap.size 0 (#[.int .i64 2, .int .i64 y0, .int .i64 0, .int .i64 4, .int .i64 0, .int .i64 y1, .int .i64 y2, .int .i64 y3, .int .i64 0] : Array Value).toList).cell? ⟨g, off, none⟩ = some (.int .i64 y0) := (((Chg.refl [w.heap.size] w6).setAll (.inl (by simp)) 0 _).cell' (p := ⟨g, off, none⟩) (Nat.lt_of_lt_of_le hg G6.size) (by simp; omega)).trans S6
 refine hK.out _ _ S7 (fun hH2 => ?_)
 clear hK K hH
 have hH := hH2
 clear hH2
 walk_nrm
 refine wpAnyH_done (by kernel_rfl) ?_ _
 refine NoPanic.normal ?_
 clear hH S7
 generalize w6.setCells w.heap.size 0 (#[.int .i64 2, .int .i64 y0, .int .i64 0, .int .i64 4, .int .i64 0, .int .i64 y1, .int .i64 y2, .int .i64 y3, .int .i64 0] : Array Value).toList = w7 at *
 go_wp2
 exact bodyPost_ret (ret_sp rfl rfl B7) rfl ⟨rfl, G7⟩
set_option maxRecDepth 100000 in
set_option maxHeartbeats 2000000 in
theorem stepof_drop (g off d : Nat) (y0 y1 y2 y3 : Int) (w : World) (hg : g < w.heap.size) (c0 : w.cell? ⟨g, off, none⟩ = some (.int .i64 y0)) (c1 : w.cell? ⟨g, off + 1, none⟩ = some (.int .i64 y1)) (c2 : w.cell? ⟨g, off + 2, none⟩ = some (.int .i64 y2)) (c3 : w.cell? ⟨g, off + 3, none⟩ = some (.int .i64 y3)) :
  Calls Tryz.prog 37 #[.string (strA wDrop), .slice (some ⟨g, off, none⟩) 4 (d + 4)] w fun e w' => e = .returned (spV ⟨2, y0, 0, ⟨5, 0, y1, y2, y3, 0⟩⟩) ∧ Chg [] w w' := by
 have b0 := neqw (x := wDrop) (l := [111, 112, 101, 110]) (by decide)
 have b1 := neqw (x := wDrop) (l := [100, 111, 119, 110]) (by decide)
 have b2 := neqw (x := wDrop) (l := [116, 105, 99, 107]) (by decide)
 have b3 := neqw (x := wDrop) (l := [97, 100, 100]) (by decide)
 have b4 := neqw (x := wDrop) (l := [116, 97, 107, 101]) (by decide)
 have b5 := neqw (x := wDrop) (l := [114, 101, 110, 101, 119]) (by decide)
 have b6 := neqw (x := wDrop) (l := [100, 111, 110, 101]) (by decide)
 have b7 := eqw (x := wDrop) (l := [100, 114, 111, 112]) (by decide)
 unfold spV spC
 go_enter Tryz.func37, Tryz.ntmps37
 go_upto_region 13 with fail
 have k0 : Chg [] w (w.alloc (.cells #[.int .i64 0, .int .i64 0, .int .i64 0, .int .i64 0, .int .i64 0, .int .i64 0, .int .i64 0, .int .i64 0, .int .i64 0] 85)) := (Chg.refl [] w).alloc _
 have B0 := Blk.new w #[.int .i64 0, .int .i64 0, .int .i64 0, .int .i64 0, .int .i64 0, .int .i64 0, .int .i64 0, .int .i64 0, .int .i64 0] 85
 generalize w.alloc (.cells #[.int .i64 0, .int .i64 0, .int .i64 0, .int .i64 0, .int .i64 0, .int .i64 0, .int .i64 0, .int .i64 0, .int .i64 0] 85) = w1 at *
 have d0 := (k0.cell' (p := ⟨g, off, none⟩) hg (by simp)).trans c0
 have d1 := (k0.cell' (p := ⟨g, off + 1, none⟩) hg (by simp)).trans c1
 have d2 := (k0.cell' (p := ⟨g, off + 2, none⟩) hg (by simp)).trans c2
 have d3 := (k0.cell' (p := ⟨g, off + 3, none⟩) hg (by simp)).trans c3
 have hg1 := Nat.lt_of_lt_of_le hg k0.size
 clear c0 c1 c2 c3
 have hS0 : w1.drew.cell? ⟨g, off, none⟩ = some (.int .i64 y0) := d0
 refine wp_region_noPanic ?_
 refine wp_region_held_drew (S := (fun w' => w'.cell? ⟨g, off, none⟩ = some (.int .i64 y0))) (by kernel_rfl) hS0 (fun hH => ?_)
 refine tk 0 rfl hH ?_
 walk_nrm
 refine tk 1 rfl hH ?_
 walk_nrm
 refine tk 2 rfl hH ?_
 walk_nrm
 refine tk 3 rfl hH ?_
 walk_nrm
 refine tk 4 rfl hH ?_
 walk_nrm
 refine tk 5 rfl hH ?_
 walk_nrm
 refine rd 6 rfl (fun K hK => ?_)
 go_simp
 refine (orderof_drop g (off + 1) _ y1 y2 y3 w1.drew hg1 d1 d2 d3).mono ?_
 rintro e w6 ⟨rfl, g6⟩
 have B6 := Blk.chg (show Blk w1.drew _ _ _ from B0) g6 (by simp)
 have G6 := (k0.drew).trans g6 (by simp)
 have S6 : w6.cell? ⟨g, off, none⟩ = some (.int .i64 y0) := (g6.cell' (p := ⟨g, off, none⟩) hg1 (by simp)).trans d0
 refine hK.out _ _ S6 (fun hH2 => ?_)
 clear hK K hH
 have hH := hH2
 clear hH2
 walk_nrm
 unfold odV
 refine tk 7 rfl hH ?_
 walk_nrm
 refine rd 8 rfl (fun K hK => ?_)
 refine wp_store_mid 85 _ _ rfl w.heap.size 0 _ rfl rfl (B6.thereD (Nat.le_of_eq rfl)) (by rw [spInfoD]; rfl) (by simp [Value.oneCell']) ?_
 have B7 := B6.wholeD #[.int .i64 2, .int .i64 y0, .int .i64 0, .int .i64 5, .int .i64 0, .int .i64 y1, .int .i64 y2, .int .i64 y3, .int .i64 0] rfl
 have G7 := G6.setAll (b := w.heap.size) (.inr (Nat.le_refl _)) 0 (#[.int .i64 2, .int .i64 y0, .int .i64 0, .int .i64 5, .int .i64 0, .int .i64 y1, .int .i64 y2, .int .i64 y3, .int .i64 0] : Array Value).toList
 have S7 : (w6.setCells w.heap.size 0 (#[.int .i64 2, .int .i64 y0, .int .i64 0, .int .i64 5, .int .i64 0, .int .i64 y1, .int .i64 y2, .int .i64 y3, .int .i64 0] : Array Value).toList).cell? ⟨g, off, none⟩ = some (.int .i64 y0) := (((Chg.refl [w.heap.size] w6).setAll (.inl (by simp)) 0 _).cell' (p := ⟨g, off, none⟩) (Nat.lt_of_lt_of_le hg G6.size) (by simp; omega)).trans S6
 refine hK.out _ _ S7 (fun hH2 => ?_)
 clear hK K hH
 have hH := hH2
 clear hH2
 walk_nrm
 refine wpAnyH_done (by kernel_rfl) ?_ _
 refine NoPanic.normal ?_
 clear hH S7
 generalize w6.setCells w.heap.size 0 (#[.int .i64 2, .int .i64 y0, .int .i64 0, .int .i64 5, .int .i64 0, .int .i64 y1, .int .i64 y2, .int .i64 y3, .int .i64 0] : Array Value).toList = w7 at *
 go_wp2
 exact bodyPost_ret (ret_sp rfl rfl B7) rfl ⟨rfl, G7⟩
set_option maxRecDepth 100000 in
set_option maxHeartbeats 2000000 in
theorem stepof_none (x : List UInt8) (v : Value) (w : World) (hx : isStepW x = false) :
  Calls Tryz.prog 37 #[.string (strA x), v] w fun e w' => e = .returned (spV spZ) ∧ Chg [] w w' := by
 have e : ∀ y, isStepW y = true → ¬ x = y := fun y hy h => by rw [h, hy] at hx; cases hx
 have b0 := neqw (x := x) (l := [111, 112, 101, 110]) (e wOpen (by decide))
 have b1 := neqw (x := x) (l := [100, 111, 119, 110]) (e wDown (by decide))
 have b2 := neqw (x := x) (l := [116, 105, 99, 107]) (e wTick (by decide))
 have b3 := neqw (x := x) (l := [97, 100, 100]) (e wAdd (by decide))
 have b4 := neqw (x := x) (l := [116, 97, 107, 101]) (e wTake (by decide))
 have b5 := neqw (x := x) (l := [114, 101, 110, 101, 119]) (e wRenew (by decide))
 have b6 := neqw (x := x) (l := [100, 111, 110, 101]) (e wDone (by decide))
 have b7 := neqw (x := x) (l := [100, 114, 111, 112]) (e wDrop (by decide))
 clear e hx
 unfold spV spC spZ
 go_enter Tryz.func37, Tryz.ntmps37
 go_wp2
 exact bodyPost_ret (ret_sp rfl rfl (Blk.new w _ _)) rfl ⟨rfl, (Chg.refl _ _).alloc _⟩
theorem stepof_any (x : List UInt8) (a : Option Addr) (c : Nat) (ns : List Int) (w : World) (hc : ns.length ≤ c) (hn : (ns.length : Int) = countW x) (h : Nms w a ns) :
  Calls Tryz.prog 37 #[.string (strA x), .slice a ns.length c] w fun e w' => e = .returned (spV (stepP x ns)) ∧ Chg [] w w' := by
 by_cases hs : isStepW x = true
 ·rcases countW_cases hn with ⟨rfl, hk⟩ | ⟨rfl, hk⟩ | ⟨rfl, hk⟩ | ⟨rfl, hk⟩ | ⟨rfl, hk⟩ | ⟨rfl, hk⟩ | ⟨rfl, hk⟩ | ⟨rfl, hk⟩ | ⟨rfl, hk⟩ | ⟨rfl, hk⟩ | ⟨rfl, hk⟩ | ⟨rfl, hk⟩
  all_goals first | (exfalso; revert hs; decide) | skip
  ·obtain ⟨y0, rfl⟩ := lenD1 hk
   obtain ⟨d, rfl⟩ : ∃ d, c = d + 1 := ⟨c - 1, by simp at hc; omega⟩
   obtain ⟨-, h0 | ⟨g, off, rfl, hg, hcell⟩⟩ := h
   ·cases h0
   exact stepof_open g off d y0 w hg (hcell 0 _ rfl)
  ·obtain ⟨y0, rfl⟩ := lenD1 hk
   obtain ⟨d, rfl⟩ : ∃ d, c = d + 1 := ⟨c - 1, by simp at hc; omega⟩
   obtain ⟨-, h0 | ⟨g, off, rfl, hg, hcell⟩⟩ := h
   ·cases h0
   exact stepof_down g off d y0 w hg (hcell 0 _ rfl)
  ·obtain ⟨y0, rfl⟩ := lenD1 hk
   obtain ⟨d, rfl⟩ : ∃ d, c = d + 1 := ⟨c - 1, by simp at hc; omega⟩
   obtain ⟨-, h0 | ⟨g, off, rfl, hg, hcell⟩⟩ := h
   ·cases h0
   exact stepof_tick g off d y0 w hg (hcell 0 _ rfl)
  ·obtain ⟨y0, y1, rfl⟩ := lenD2 hk
   obtain ⟨d, rfl⟩ : ∃ d, c = d + 2 := ⟨c - 2, by simp at hc; omega⟩
   obtain ⟨-, h0 | ⟨g, off, rfl, hg, hcell⟩⟩ := h
   ·cases h0
   exact stepof_add g off d y0 y1 w hg (hcell 0 _ rfl) (hcell 1 _ rfl)
  ·obtain ⟨y0, y1, y2, rfl⟩ := lenD3 hk
   obtain ⟨d, rfl⟩ : ∃ d, c = d + 3 := ⟨c - 3, by simp at hc; omega⟩
   obtain ⟨-, h0 | ⟨g, off, rfl, hg, hcell⟩⟩ := h
   ·cases h0
   exact stepof_take g off d y0 y1 y2 w hg (hcell 0 _ rfl) (hcell 1 _ rfl) (hcell 2 _ rfl)
  ·obtain ⟨y0, y1, y2, y3, rfl⟩ := lenD4 hk
   obtain ⟨d, rfl⟩ : ∃ d, c = d + 4 := ⟨c - 4, by simp at hc; omega⟩
   obtain ⟨-, h0 | ⟨g, off, rfl, hg, hcell⟩⟩ := h
   ·cases h0
   exact stepof_done g off d y0 y1 y2 y3 w hg (hcell 0 _ rfl) (hcell 1 _ rfl) (hcell 2 _ rfl) (hcell 3 _ rfl)
  ·obtain ⟨y0, y1, y2, y3, rfl⟩ := lenD4 hk
   obtain ⟨d, rfl⟩ : ∃ d, c = d + 4 := ⟨c - 4, by simp at hc; omega⟩
   obtain ⟨-, h0 | ⟨g, off, rfl, hg, hcell⟩⟩ := h
   ·cases h0
   exact stepof_drop g off d y0 y1 y2 y3 w hg (hcell 0 _ rfl) (hcell 1 _ rfl) (hcell 2 _ rfl) (hcell 3 _ rfl)
  ·obtain ⟨y0, y1, y2, y3, y4, rfl⟩ := lenD5 hk
   obtain ⟨d, rfl⟩ : ∃ d, c = d + 5 := ⟨c - 5, by simp at hc; omega⟩
   obtain ⟨-, h0 | ⟨g, off, rfl, hg, hcell⟩⟩ := h
   ·cases h0
   exact stepof_renew g off d y0 y1 y2 y3 y4 w hg (hcell 0 _ rfl) (hcell 1 _ rfl) (hcell 2 _ rfl) (hcell 3 _ rfl) (hcell 4 _ rfl)
 ·have hz : isStepW x = false := by simpa using hs
  have e : ∀ y, isStepW y = true → ¬ x = y := fun y hy h => by rw [h, hy] at hz; cases hz
  have : stepP x ns = spZ := by
   unfold stepP
   rw [if_neg (e wOpen (by decide)), if_neg (e wDown (by decide)), if_neg (e wTick (by decide)), if_neg (e wAdd (by decide)), if_neg (e wTake (by decide)), if_neg (e wRenew (by decide)), if_neg (e wDone (by decide)), if_neg (e wDrop (by decide))]
  rw [this]
  exact stepof_none x _ w hz
theorem blank_at (w : World) : PredAt Tryz.prog 25 #[] encR blankR w := fun W r _ => by
 unfold FnGives
 by_cases h : r = 32
 ·have b : ((r : Int) == 32) = true := by simp; omega
  have hb : blankR r = true := by simpa [blankR] using h
  rw [hb]
  go_enter Tryz.func25, Tryz.ntmps25
  go_wp2
  go_ret
  exact ⟨rfl, 0, rfl⟩
 ·have b : ((r : Int) == 32) = false := by simp; omega
  have hb : blankR r = false := by simpa [blankR] using h
  rw [hb]
  go_enter Tryz.func25, Tryz.ntmps25
  go_wp2
  go_ret
  exact ⟨rfl, 0, rfl⟩
set_option maxRecDepth 100000 in
theorem wordsof_any (l : List UInt8) (w : World) (hs : l.length ≤ 1000000) :
  Calls Tryz.prog 14 #[.string (strA l)] w fun e w' => ∃ v, e = .returned v ∧ w'.ownsRow w.heap.size 9 1 v (wordsL l).length (strsC (wordsL l)) ∧ Chg [] w w' := by
 have hC := Tryz.strings_FieldsFunc 25 #[] (enters_of Tryz.func25 (by kernel_rfl) rfl) blankR (strA l) w (by rw [strA_size]; omega) (blank_at w)
 rw [fields_words] at hC
 have e0 : ((wordsL l).map strA).map Value.string = strsC (wordsL l) := by rw [List.map_map]; rfl
 rw [e0, List.length_map] at hC
 have HC := hide hC
 clear hC e0
 go_enter Tryz.func14, Tryz.ntmps14
 go_wp2_with fail
 refine (unhide HC).mono ?_
 rintro e w1 ⟨A, rfl, -, own, hb⟩
 have OW := hide own
 have HG := hide (Chg.ofBelow hb [])
 clear own hb
 go_wp2
 go_ret
 exact ⟨_, rfl, unhide OW, unhide HG⟩
theorem index_nl : ∀ l : List UInt8, decide (0 ≤ Lib.indexByte l 10) = hasNL l
 | [] => by decide
 | b :: l => by
  have ih := index_nl l
  unfold Lib.indexByte hasNL
  rw [List.any_cons]
  by_cases hb : b = 10
  ·subst hb; rfl
  ·have hb' : (b == 10) = false := by simpa using hb
   rw [hb', if_neg (by simp), Bool.false_or, ← show hasNL l = l.any (· == 10) from rfl, ← ih]
   by_cases hi : Lib.indexByte l 10 = -1
   ·rw [hi]; decide
   ·rw [if_neg (by simpa using hi)]
    have : -1 ≤ Lib.indexByte l 10 := by
     clear ih hb' hb hi
     induction l with
     | nil => decide
     | cons c l ih' =>
      unfold Lib.indexByte
      split
      ·decide
      ·split
       ·decide
       ·omega
    by_cases h0 : 0 ≤ Lib.indexByte l 10
    ·rw [decide_eq_true h0, decide_eq_true (by omega)]
    ·omega
theorem nl_at (w : World) : PredAt Tryz.prog 22 #[] strV hasNL w := fun W l _ => by
 unfold FnGives strV
 rw [← index_nl l]
 have e0 : (strA l).data.toList = l := by simp [strA]
 go_enter Tryz.func22, Tryz.ntmps22
 go_wp2_with fail
 refine (Tryz.strings_Contains_one (strA l) 10 _).mono ?_
 rintro e w1 ⟨rfl, rfl⟩
 rw [e0]
 go_wp2
 go_ret
 exact ⟨rfl, 0, rfl⟩
theorem idx_from (d : List UInt8) : ∀ (ls : List (List UInt8)) (k : Nat), Lib.idxByFrom (fun _ y => hasNL y) d ls k = match ls.findIdx? hasNL with
  | some i => ((k + i : Nat) : Int)
  | none => -1
 | [], k => rfl
 | y :: r, k => by
  unfold Lib.idxByFrom
  rw [List.findIdx?_cons]
  cases hy : hasNL y with
  | true => simp
  | false =>
   simp only [Bool.false_eq_true, if_false]
   rw [idx_from d r (k + 1)]
   cases r.findIdx? hasNL with
   | none => rfl
   | some i =>
    show ((k + 1 + i : Nat) : Int) = ((k + (i + 1) : Nat) : Int)
    rw [show k + 1 + i = k + (i + 1) by omega]
theorem idx_find (ls : List (List UInt8)) (d : List UInt8) : Lib.idxBy (fun _ y => hasNL y) ls d = match ls.findIdx? hasNL with
  | some i => (i : Int)
  | none => -1 := by
 unfold Lib.idxBy
 rw [idx_from]
 cases ls.findIdx? hasNL with
 | none => rfl
 | some i => simp
set_option maxRecDepth 100000 in
set_option maxHeartbeats 2000000 in
theorem dcheck_any (a : Option Addr) (n c : Nat) (ls : List (List UInt8)) (w : World) (hl : ls.length = n) (h : Strs w a ls) :
  Calls Tryz.prog 13 #[.slice a n c] w fun e w' => e = .returned (.agg #[.int .i64 (faultL ls).1, .int .i64 (faultL ls).2]) ∧ Chg [] w w' := by
 by_cases hbig : 150 < n
 ·have d1 : decide ((150 : Int) < (n : Int)) = true := by simp; omega
  have d2 : (150 : Int) < (n : Int) := by omega
  have HF := hide (show faultL ls = (12, -1) by unfold faultL; rw [if_pos (by omega)])
  clear h hl
  go_enter Tryz.func13, Tryz.ntmps13
  go_wp2
  rw [unhide HF]
  exact bodyPost_ret (ret_flt rfl rfl (Blk.new w _ _)) rfl ⟨rfl, (Chg.refl _ _).alloc _⟩
 ·have d1 : decide ((150 : Int) < (n : Int)) = false := by simp; omega
  have d2 : ¬ (150 : Int) < (n : Int) := by omega
  have HL := hide hl
  have kW := (Chg.refl [] w).alloc (.cells #[.int .i64 0, .int .i64 0] 31)
  have HI : Hid (Calls Tryz.prog 21 #[.slice a n c, .func (.func 22) #[] #[]] (w.alloc (.cells #[.int .i64 0, .int .i64 0] 31)) fun e w' => e = .returned (.int .i64 (Lib.idxBy (fun _ y => hasNL y) ls [])) ∧ Chg [] (w.alloc (.cells #[.int .i64 0, .int .i64 0] 31)) w') := by
   refine hide ?_
   rcases h.chg kW with h0 | ⟨g, off, rfl, hg, hc⟩
   ·subst h0
    simp at hl
    subst hl
    refine (Tryz.slices_IndexFunc_empty (α := List UInt8) a c _ _).mono ?_
    rintro e w' ⟨rfl, rfl⟩
    exact ⟨rfl, Chg.refl _ _⟩
   ·refine (Tryz.slices_IndexFunc strV hasNL 22 #[] (enters_of Tryz.func22 (by kernel_rfl) rfl) g off n c ls _ (nl_at _) (by omega) (by omega) (fun j hj => ?_)).mono ?_
    ·exact hc j _ (by rw [List.getElem?_eq_getElem hj, getElem!_pos ls j hj])
    ·rintro e w' ⟨rfl, q, rfl⟩
     exact ⟨by rw [List.take_of_length_le (by omega)]; rfl, (Chg.refl _ _).drewN q⟩
  clear h hl
  have HX := hide (idx_find ls [])
  cases hf : ls.findIdx? hasNL with
  | some i =>
   have HE := hide (show Lib.idxBy (fun _ y => hasNL y) ls [] = (i : Int) by rw [unhide HX, hf])
   have HF := hide (show faultL ls = ((13 : Int), (i : Int)) by unfold faultL; rw [if_neg (by rw [unhide HL]; exact hbig), hf])
   have i0 : (0 : Int) ≤ (i : Int) := by omega
   clear hf HX kW
   go_enter Tryz.func13, Tryz.ntmps13
   go_wp2_with fail
   refine (unhide HI).mono ?_
   rintro e w2 ⟨rfl, g2⟩
   rw [unhide HE]
   have B2 := (Blk.new w #[.int .i64 0, .int .i64 0] 31).chg g2 (by simp)
   have G2 : Chg [] w w2 := ((Chg.refl [] w).alloc _).trans g2 (by simp)
   have l2 := B2.lt
   have r0 : w2.cell? ⟨w.heap.size, 0, none⟩ = some (.int .i64 0) := B2.cell 0
   have r1 : w2.cell? ⟨w.heap.size, 1, none⟩ = some (.int .i64 0) := B2.cell 1
   have f0 := B2.fz 0
   have f1 := B2.fz 1
   clear g2 HI
   go_wp2
   rw [unhide HF]
   exact bodyPost_ret (ret_flt rfl rfl ((B2.set 0 (.int .i64 13)).set 1 (.int .i64 (i : Int)))) rfl ⟨rfl, (G2.setCell (p := ⟨w.heap.size, 0, none⟩) (.inr (Nat.le_refl _)) _).setCell (p := ⟨w.heap.size, 1, none⟩) (.inr (Nat.le_refl _)) _⟩
  | none =>
   have HE := hide (show Lib.idxBy (fun _ y => hasNL y) ls [] = -1 by rw [unhide HX, hf])
   have HF := hide (show faultL ls = (0, 0) by unfold faultL; rw [if_neg (by rw [unhide HL]; exact hbig), hf])
   clear hf HX kW
   go_enter Tryz.func13, Tryz.ntmps13
   go_wp2_with fail
   refine (unhide HI).mono ?_
   rintro e w2 ⟨rfl, g2⟩
   rw [unhide HE]
   have B2 := (Blk.new w #[.int .i64 0, .int .i64 0] 31).chg g2 (by simp)
   have G2 : Chg [] w w2 := ((Chg.refl [] w).alloc _).trans g2 (by simp)
   have l2 := B2.lt
   have r0 : w2.cell? ⟨w.heap.size, 0, none⟩ = some (.int .i64 0) := B2.cell 0
   have r1 : w2.cell? ⟨w.heap.size, 1, none⟩ = some (.int .i64 0) := B2.cell 1
   have f0 := B2.fz 0
   have f1 := B2.fz 1
   clear g2 HI
   go_wp2
   rw [unhide HF]
   exact bodyPost_ret (ret_flt rfl rfl ((B2.set 0 (.int .i64 0)).set 1 (.int .i64 0))) rfl ⟨rfl, (G2.setCell (p := ⟨w.heap.size, 0, none⟩) (.inr (Nat.le_refl _)) _).setCell (p := ⟨w.heap.size, 1, none⟩) (.inr (Nat.le_refl _)) _⟩
def tornP : List (List UInt8) → Option Sp
 | k :: x :: r => (match numL k, numbersP x r with
  | some n, some ns => if (stepP x ns).k = 2 then some ⟨3, (stepP x ns).n, n, (stepP x ns).o⟩ else none
  | _, _ => none)
 | _ => none
theorem ret_torn {fn : Func} {q p : Tmp} (h : fn.results = #[.cell q 85, .tmp p]) {tmps : Array Value} {w : World} {c : Nat} {b : Value}
  (hq : tmps.getD q undef = .pointer (some ⟨c, 0, none⟩)) (hp : tmps.getD p undef = b) {ty'' : TypeId} {v0 v1 v2 v3 v4 v5 v6 v7 v8 : Value} (hA : Blk w c #[v0, v1, v2, v3, v4, v5, v6, v7, v8] ty'') :
  (results fn tmps).run Tryz.prog w = .ok (.tuple #[.agg #[v0, v1, v2, v3, v4, v5, v6, v7, v8], b]) w := by
 have hc : w.rangeAt c 0 [v0, v1, v2, v3, v4, v5, v6, v7, v8] := fun j v hv => by rw [Nat.zero_add, hA.cell]; simpa using hv
 have ha := run_loadVar_mid (P := Tryz.prog) w c 0 85 [v0, v1, v2, v3, v4, v5, v6, v7, v8] _ hc Tryz.underlying85 rfl (by rw [spInfoD]; rfl)
 have hq' : tmps[q]?.getD undef = .pointer (some ⟨c, 0, none⟩) := by simpa using hq
 have hp' : tmps[p]?.getD undef = b := by simpa using hp
 simp only [results, h]
 simp [hq', hp', asAddr, ha]
theorem own_nmsD {w : World} {base : Nat} {e : TypeId} {v : Value} {l : List Int} (h : w.ownsRow base e 1 v l.length (l.map (.int .i64))) (hb : ∀ x ∈ l, I64 x) : ∃ a c, v = .slice a l.length c ∧ l.length ≤ c ∧ Nms w a l := by
 by_cases h0 : l.length = 0
 ·have hn : l = [] := List.eq_nil_of_length_eq_zero h0
  obtain ⟨_, ⟨rfl, _⟩ | ⟨g, c, cur, rfl, _, _, hc, _⟩⟩ := h
  ·exact ⟨none, 0, by rw [h0], by omega, hb, .inl hn⟩
  ·exact ⟨_, c, rfl, hc, hb, .inl hn⟩
 ·have hl := h.lt
  have hcell := fun g => h.cells (g := g)
  obtain ⟨_, ⟨_, h1⟩ | ⟨g, c, cur, e1, hb', _, hc, _⟩⟩ := h
  ·omega
  ·refine ⟨_, c, e1, hc, hb, .inr ⟨g, 0, rfl, (hl g (by rw [e1]; rfl)).2, fun i x hx => ?_⟩⟩
   have := hcell g (by rw [e1]; rfl) i (.int .i64 x) (by rw [List.getElem?_map, hx]; rfl)
   have e2 : ((⟨g, 0, none⟩ : Addr).add i) = ⟨g, 0 + i, none⟩ := by unfold Addr.add; split <;> simp_all
   rw [e2] at this
   exact this
set_option maxRecDepth 100000 in
set_option maxHeartbeats 2000000 in
theorem torn_short (a : Option Addr) (m c : Nat) (w : World) (hm : m < 2) :
  Calls Tryz.prog 49 #[.slice a m c] w fun e w' => e = .returned (.tuple #[spV spZ, .bool false]) ∧ Chg [] w w' := by
 have d1 : (m : Int) < 2 := by omega
 unfold spV spC spZ
 go_enter Tryz.func49, Tryz.ntmps49
 go_wp2
 exact bodyPost_ret (ret_torn rfl rfl rfl (Blk.new w _ _)) rfl ⟨rfl, (Chg.refl _ _).alloc _⟩
set_option maxRecDepth 100000 in
set_option maxHeartbeats 4000000 in
theorem torn_long (a : Option Addr) (q d : Nat) (k x : List UInt8) (r : List (List UInt8)) (w : World) (hr : r.length = q) (hq : q ≤ 1000000) (hd : q ≤ d) (hl : ∀ y ∈ k :: x :: r, y.length ≤ 1000000) (h : Strs w a (k :: x :: r)) (hv : Vars w) :
  Calls Tryz.prog 49 #[.slice a (q + 2) (d + 2)] w fun e w' => ∃ s, e = .returned (.tuple #[spV s, .bool (tornP (k :: x :: r)).isSome]) ∧ (∀ y, tornP (k :: x :: r) = some y → y = s) ∧ Chg [] w w' := by
 rcases h with h0 | ⟨g, off, rfl, hg, hc⟩
 ·cases h0
 have HC := hide hc
 have HL := hide hl
 have HV := hide hv
 have HR := hide hr
 clear hc hl hv hr
 have d1 : ¬ (q : Int) + 2 < 2 := by omega
 have d3 : (0 : Int) < (q : Int) + 2 := by omega
 have d4 : (1 : Int) < (q : Int) + 2 := by omega
 have k0 : Chg [] w (w.alloc (.cells #[.int .i64 0, .int .i64 0, .int .i64 0, .int .i64 0, .int .i64 0, .int .i64 0, .int .i64 0, .int .i64 0, .int .i64 0] 85)) := (Chg.refl [] w).alloc _
 have B0 := Blk.new w #[.int .i64 0, .int .i64 0, .int .i64 0, .int .i64 0, .int .i64 0, .int .i64 0, .int .i64 0, .int .i64 0, .int .i64 0] 85
 have HC0 := hide (show ∀ i y, (k :: x :: r)[i]? = some y → (w.alloc (.cells #[.int .i64 0, .int .i64 0, .int .i64 0, .int .i64 0, .int .i64 0, .int .i64 0, .int .i64 0, .int .i64 0, .int .i64 0] 85)).cell? ⟨g, off + i, none⟩ = some (.string (strA y)) from fun i y hy => (k0.cell' (p := ⟨g, off + i, none⟩) hg (by simp)).trans (unhide HC i y hy))
 go_enter Tryz.func49, Tryz.ntmps49
 go_upto_region 1 with fail
 generalize w.alloc (.cells #[.int .i64 0, .int .i64 0, .int .i64 0, .int .i64 0, .int .i64 0, .int .i64 0, .int .i64 0, .int .i64 0, .int .i64 0] 85) = w1 at *
 have hg1 := Nat.lt_of_lt_of_le hg k0.size
 have p0 : w1.cell? ⟨g, off, none⟩ = some (.string (strA k)) := unhide HC0 0 k rfl
 go_wp2_with fail
 refine (number_any k _ (unhide HL k (by simp)) ((unhide HV).chg k0)).mono ?_
 rintro e w2 ⟨n, rfl, hn, g2⟩
 have G2 := k0.trans g2 (by simp)
 have B2 := B0.chg g2 (by simp)
 have HS2 := hide (show Strs w2 (some ⟨g, off + 1, none⟩) (x :: r) from .inr ⟨g, off + 1, rfl, Nat.lt_of_lt_of_le hg1 g2.size, fun i y hy => by rw [g2.cell' (p := ⟨g, off + 1 + i, none⟩) hg1 (by simp), show off + 1 + i = off + (i + 1) by omega]; exact unhide HC0 (i + 1) y (by simpa using hy)⟩)
 clear g2 B0 p0
 go_wp2_with fail
 refine (numbers_any (some ⟨g, off + 1, none⟩) q d x r _ (unhide HR) hq hd (fun y hy => unhide HL y (List.mem_cons_of_mem _ hy)) (unhide HS2) ((unhide HV).chg G2)).mono ?_
 rintro e w3 ⟨v, rfl, hv3, g3⟩
 have G3 := G2.trans g3 (by simp)
 have B3 := B2.chg g3 (by simp)
 have p1 : w3.cell? ⟨g, off + 1, none⟩ = some (.string (strA x)) := by
  rw [g3.cell' (p := ⟨g, off + 1, none⟩) (Nat.lt_of_lt_of_le hg G2.size) (by simp)]
  rcases unhide HS2 with h0 | ⟨g', off', e', hg', hc'⟩
  ·cases h0
  ·cases e'
   exact hc' 0 x rfl
 have hg3 := Nat.lt_of_lt_of_le hg G3.size
 clear g3 B2 HS2
 cases hk : numL k with
 | none =>
  have HT := hide (show tornP (k :: x :: r) = none by unfold tornP; simp only [hk])
  simp only [Option.isSome_none]
  clear hk hn hv3
  go_wp2_with (refine wpList_store_mid rfl 85 (.tmp 2) (.tmp 32) rfl w.heap.size 0 #[.int .i64 0, .int .i64 0, .int .i64 0, .int .i64 0, .int .i64 0, .int .i64 0, .int .i64 0, .int .i64 0, .int .i64 0] rfl rfl ?ht (by rw [spInfoD]; rfl) (by simp [Value.oneCell']) ?_; (case ht => exact B3.thereD (Nat.le_of_eq rfl)); have B9 := B3.wholeD #[.int .i64 0, .int .i64 0, .int .i64 0, .int .i64 0, .int .i64 0, .int .i64 0, .int .i64 0, .int .i64 0, .int .i64 0] rfl; have G9 := G3.setAll (b := w.heap.size) (.inr (Nat.le_refl _)) 0 (#[.int .i64 0, .int .i64 0, .int .i64 0, .int .i64 0, .int .i64 0, .int .i64 0, .int .i64 0, .int .i64 0, .int .i64 0] : Array Value).toList; generalize w3.setCells w.heap.size 0 (#[.int .i64 0, .int .i64 0, .int .i64 0, .int .i64 0, .int .i64 0, .int .i64 0, .int .i64 0, .int .i64 0, .int .i64 0] : Array Value).toList = w9 at B9 G9 ⊢)
  exact bodyPost_ret (ret_torn rfl rfl rfl B9) rfl ⟨spZ, by rw [unhide HT]; rfl, (fun y hy => by rw [unhide HT] at hy; cases hy), G9⟩
 | some n' =>
  obtain rfl := hn n' hk
  simp only [Option.isSome_some]
  cases hp : numbersP x r with
  | none =>
   have HT := hide (show tornP (k :: x :: r) = none by unfold tornP; simp only [hk, hp])
   simp only [Option.isSome_none]
   clear hk hn hv3 hp
   go_wp2_with (refine wpList_store_mid rfl 85 (.tmp 2) (.tmp 32) rfl w.heap.size 0 #[.int .i64 0, .int .i64 0, .int .i64 0, .int .i64 0, .int .i64 0, .int .i64 0, .int .i64 0, .int .i64 0, .int .i64 0] rfl rfl ?ht (by rw [spInfoD]; rfl) (by simp [Value.oneCell']) ?_; (case ht => exact B3.thereD (Nat.le_of_eq rfl)); have B9 := B3.wholeD #[.int .i64 0, .int .i64 0, .int .i64 0, .int .i64 0, .int .i64 0, .int .i64 0, .int .i64 0, .int .i64 0, .int .i64 0] rfl; have G9 := G3.setAll (b := w.heap.size) (.inr (Nat.le_refl _)) 0 (#[.int .i64 0, .int .i64 0, .int .i64 0, .int .i64 0, .int .i64 0, .int .i64 0, .int .i64 0, .int .i64 0, .int .i64 0] : Array Value).toList; generalize w3.setCells w.heap.size 0 (#[.int .i64 0, .int .i64 0, .int .i64 0, .int .i64 0, .int .i64 0, .int .i64 0, .int .i64 0, .int .i64 0, .int .i64 0] : Array Value).toList = w9 at B9 G9 ⊢)
   exact bodyPost_ret (ret_torn rfl rfl rfl B9) rfl ⟨spZ, by rw [unhide HT]; rfl, (fun y hy => by rw [unhide HT] at hy; cases hy), G9⟩
  | some ns =>
   simp only [Option.isSome_some]
   obtain ⟨-, hlen, hbd⟩ := numsT_some (s := G0) (tear := true) (keep := 0) hp
   obtain ⟨av, cv, rfl, hcv, hN⟩ := own_nmsD (hv3 ns hp) hbd
   have HTT := hide (show tornP (k :: x :: r) = if (stepP x ns).k = 2 then some ⟨3, (stepP x ns).n, n', (stepP x ns).o⟩ else none by unfold tornP; simp only [hk, hp])
   have HLEN := hide hlen
   have HNN := hide hN
   clear hk hn hv3 hp hlen hbd hN
   go_wp2_with fail
   refine (stepof_any x av cv ns _ hcv (unhide HLEN) (unhide HNN)).mono ?_
   rintro e w4 ⟨rfl, g4⟩
   have G4 := G3.trans g4 (by simp)
   have B4 := B3.chg g4 (by simp)
   clear g4 B3 G3 HNN HLEN hcv p1
   generalize stepP x ns = sp at *
   obtain ⟨sk, sn, skeep, ok, onow, ojb, otr, owk, otm⟩ := sp
   simp only [spV, spC] at *
   have z4 := B4.lt
   by_cases h2 : sk = 2
   ·subst h2
    have HT := hide (show tornP (k :: x :: r) = some ⟨3, sn, n', ⟨ok, onow, ojb, otr, owk, otm⟩⟩ by rw [unhide HTT, if_pos rfl])
    clear HTT
    have B5 := B4.alloc (.cells #[.int .i64 3, .int .i64 sn, .int .i64 n', .int .i64 ok, .int .i64 onow, .int .i64 ojb, .int .i64 otr, .int .i64 owk, .int .i64 otm] 85)
    have G5 := G4.alloc (.cells #[.int .i64 3, .int .i64 sn, .int .i64 n', .int .i64 ok, .int .i64 onow, .int .i64 ojb, .int .i64 otr, .int .i64 owk, .int .i64 otm] 85)
    go_wp2_with (refine wpList_store_mid rfl 85 (.tmp 2) (.tmp 45) rfl w.heap.size 0 #[.int .i64 3, .int .i64 sn, .int .i64 n', .int .i64 ok, .int .i64 onow, .int .i64 ojb, .int .i64 otr, .int .i64 owk, .int .i64 otm] rfl rfl ?ht (by rw [spInfoD]; rfl) (by simp [Value.oneCell']) ?_; (case ht => exact B5.thereD (Nat.le_of_eq rfl)); have B9 := B5.wholeD #[.int .i64 3, .int .i64 sn, .int .i64 n', .int .i64 ok, .int .i64 onow, .int .i64 ojb, .int .i64 otr, .int .i64 owk, .int .i64 otm] rfl; have G9 := G5.setAll (b := w.heap.size) (.inr (Nat.le_refl _)) 0 (#[.int .i64 3, .int .i64 sn, .int .i64 n', .int .i64 ok, .int .i64 onow, .int .i64 ojb, .int .i64 otr, .int .i64 owk, .int .i64 otm] : Array Value).toList; generalize (w4.alloc (.cells #[.int .i64 3, .int .i64 sn, .int .i64 n', .int .i64 ok, .int .i64 onow, .int .i64 ojb, .int .i64 otr, .int .i64 owk, .int .i64 otm] 85)).setCells w.heap.size 0 (#[.int .i64 3, .int .i64 sn, .int .i64 n', .int .i64 ok, .int .i64 onow, .int .i64 ojb, .int .i64 otr, .int .i64 owk, .int .i64 otm] : Array Value).toList = w9 at B9 G9 ⊢)
    exact bodyPost_ret (ret_torn rfl rfl rfl B9) rfl ⟨⟨3, sn, n', ⟨ok, onow, ojb, otr, owk, otm⟩⟩, by rw [unhide HT]; rfl, (fun y hy => by rw [unhide HT] at hy; cases hy; rfl), G9⟩
   ·have HT := hide (show tornP (k :: x :: r) = none by rw [unhide HTT, if_neg h2])
    have b2 : (sk != 2) = true := by simpa using h2
    clear HTT h2
    have B5 := B4.alloc (.cells #[.int .i64 sk, .int .i64 sn, .int .i64 skeep, .int .i64 ok, .int .i64 onow, .int .i64 ojb, .int .i64 otr, .int .i64 owk, .int .i64 otm] 85)
    have G5 := G4.alloc (.cells #[.int .i64 sk, .int .i64 sn, .int .i64 skeep, .int .i64 ok, .int .i64 onow, .int .i64 ojb, .int .i64 otr, .int .i64 owk, .int .i64 otm] 85)
    go_wp2_with (refine wpList_store_mid rfl 85 (.tmp 2) (.tmp 41) rfl w.heap.size 0 #[.int .i64 0, .int .i64 0, .int .i64 0, .int .i64 0, .int .i64 0, .int .i64 0, .int .i64 0, .int .i64 0, .int .i64 0] rfl rfl ?ht (by rw [spInfoD]; rfl) (by simp [Value.oneCell']) ?_; (case ht => exact B5.thereD (Nat.le_of_eq rfl)); have B9 := B5.wholeD #[.int .i64 0, .int .i64 0, .int .i64 0, .int .i64 0, .int .i64 0, .int .i64 0, .int .i64 0, .int .i64 0, .int .i64 0] rfl; have G9 := G5.setAll (b := w.heap.size) (.inr (Nat.le_refl _)) 0 (#[.int .i64 0, .int .i64 0, .int .i64 0, .int .i64 0, .int .i64 0, .int .i64 0, .int .i64 0, .int .i64 0, .int .i64 0] : Array Value).toList; generalize (w4.alloc (.cells #[.int .i64 sk, .int .i64 sn, .int .i64 skeep, .int .i64 ok, .int .i64 onow, .int .i64 ojb, .int .i64 otr, .int .i64 owk, .int .i64 otm] 85)).setCells w.heap.size 0 (#[.int .i64 0, .int .i64 0, .int .i64 0, .int .i64 0, .int .i64 0, .int .i64 0, .int .i64 0, .int .i64 0, .int .i64 0] : Array Value).toList = w9 at B9 G9 ⊢)
    exact bodyPost_ret (ret_torn rfl rfl rfl B9) rfl ⟨spZ, by rw [unhide HT]; rfl, (fun y hy => by rw [unhide HT] at hy; cases hy), G9⟩
theorem torn_any (a : Option Addr) (m c : Nat) (ws : List (List UInt8)) (w : World) (hm : ws.length = m) (hc : m ≤ c) (hb : m ≤ 1000000) (hl : ∀ y ∈ ws, y.length ≤ 1000000) (h : Strs w a ws) (hv : Vars w) :
  Calls Tryz.prog 49 #[.slice a m c] w fun e w' => ∃ s, e = .returned (.tuple #[spV s, .bool (tornP ws).isSome]) ∧ (∀ y, tornP ws = some y → y = s) ∧ Chg [] w w' := by
 match ws, hm, hl, h with
 | [], hm, hl, h =>
  refine (torn_short a m c w (by simp at hm; omega)).mono ?_
  rintro e w' ⟨rfl, g⟩
  exact ⟨_, rfl, (fun y hy => by cases hy), g⟩
 | [x], hm, hl, h =>
  refine (torn_short a m c w (by simp at hm; omega)).mono ?_
  rintro e w' ⟨rfl, g⟩
  exact ⟨_, rfl, (fun y hy => by cases hy), g⟩
 | k :: x :: r, hm, hl, h =>
  simp only [List.length_cons] at hm
  obtain ⟨d, rfl⟩ : ∃ d, c = d + 2 := ⟨c - 2, by omega⟩
  subst hm
  exact torn_long a r.length d k x r w rfl (by omega) (by omega) hl h hv
end Go.Proofs.YtllnjiljjodfdacGreatDoor
