/-
 The program's number, count, with and jobWords. Nothing here is claimed by itself.
-/
import Derived.Conc.WalkWords
import Derived.Lib.AppendZerosOnto
import Derived.Test.YtllnjiljjodfdacGreatDoorQgE4
import Derived.Test.YtllnjiljjodfdacGreatDoorQgSP
namespace Go.Proofs.YtllnjiljjodfdacGreatDoor
open Go.RowKit

theorem eqw {x l : List UInt8} (h : x = l) : ((strA x).toList == l) = true := by rw [strA_toL, h]; simp
theorem neqw {x l : List UInt8} (h : ¬ x = l) : ((strA x).toList == l) = false := by rw [strA_toL]; exact beq_false_of_ne h
theorem itoa_any (n : Int) (w : World) (hn : I64 n) (hv : Vars w) : Calls Tryz.prog 57 #[.int .i64 n] w fun e w' => e = .returned (.string (strA (Lib.itoa n))) ∧ Chg [] w w' := by
 refine (Tryz.strconv_Itoa n hn.1 hn.2 _ hv.tab).mono ?_
 rintro e w' ⟨rfl, k, os, rfl⟩
 exact ⟨rfl, Chg.grow _ _ _⟩
theorem strInfoC : (Tryz.prog.info? 9).map (fun i => (i.zero, i.size, i.bytes)) = some (some (.string ⟨#[]⟩), 1, 16) := by kernel_rfl
theorem own_one (w : World) (s : ByteArray) : (w.alloc (.cells #[.string s] 9)).ownsRow w.heap.size 9 1 (.slice (some ⟨w.heap.size, 0, none⟩) 1 1) 1 [.string s] :=
 ⟨rfl, .inr ⟨w.heap.size, 1, #[.string s], rfl, Nat.le_refl _, heap_alloc_new w _, Nat.le_refl _, by unfold maxLen; omega, rfl, rfl⟩⟩
theorem nms_blk {w : World} {b : Nat} {j : Jb} {t : TypeId} (hj : I64 j.st ∧ I64 j.wk ∧ I64 j.tr ∧ I64 j.un) (h : Blk w b #[.int .i64 j.st, .int .i64 j.wk, .int .i64 j.tr, .int .i64 j.un] t) : Nms w (some ⟨b, 0, none⟩) [j.st, j.wk, j.tr, j.un] := by
 obtain ⟨h0, h1, h2, h3⟩ := hj
 refine ⟨fun x hx => by simp at hx; rcases hx with rfl | rfl | rfl | rfl <;> assumption, .inr ⟨b, 0, rfl, h.lt, fun i x hx => ?_⟩⟩
 rw [h.cell, Nat.zero_add]
 match i, hx with
 | 0, hx => simpa using hx
 | 1, hx => simpa using hx
 | 2, hx => simpa using hx
 | 3, hx => simpa using hx
set_option maxRecDepth 100000 in
set_option maxHeartbeats 2000000 in
theorem number_any (x : List UInt8) (w : World) (hx : x.length ≤ 1000000) (hv : Vars w) :
  Calls Tryz.prog 51 #[.string (strA x)] w fun e w' => ∃ v, e = .returned (.tuple #[.int .i64 v, .bool (numL x).isSome]) ∧ (∀ u, numL x = some u → u = v) ∧ Chg [] w w' := by
 have HV := hide hv
 clear hv
 go_enter Tryz.func51, Tryz.ntmps51
 go_wp2_with fail
 refine (atoi_any x _ (by omega) (unhide HV)).mono ?_
 rintro e w3 ⟨v3, ev, rfl, g3, hres⟩
 have HV3 := hide ((unhide HV).chg g3)
 have HG := hide g3
 clear g3
 rcases hres with ⟨hat, rfl⟩ | ⟨hat, t, p, rfl⟩
 ·have hv64 := atoi_bd hat
  by_cases hit : Lib.itoa v3 = x
  ·have hcmp : ((strA (Lib.itoa v3)).toList == (strA x).toList) = true := by rw [strA_toL, strA_toL, hit]; simp
   have HNUM := hide (numL_some hat hit)
   clear hat hit
   go_wp2_with (go_at_call 57; refine (itoa_any v3 _ hv64 (unhide HV3)).mono ?_; rintro e w4 ⟨rfl, g4⟩; have HG4 := hide ((unhide HG).trans g4 (by simp)); clear g4)
   go_ret2
   exact ⟨v3, by rw [unhide HNUM]; rfl, (fun u hu => by rw [unhide HNUM] at hu; cases hu; rfl), unhide HG4⟩
  ·have hcmp : ((strA (Lib.itoa v3)).toList == (strA x).toList) = false := by rw [strA_toL, strA_toL]; exact beq_false_of_ne hit
   have HNUM := hide (numL_long hat hit)
   clear hat hit
   go_wp2_with (go_at_call 57; refine (itoa_any v3 _ hv64 (unhide HV3)).mono ?_; rintro e w4 ⟨rfl, g4⟩; have HG4 := hide ((unhide HG).trans g4 (by simp)); clear g4)
   go_ret2
   exact ⟨v3, by rw [unhide HNUM]; rfl, (fun u hu => by rw [unhide HNUM] at hu; cases hu), unhide HG4⟩
 ·have HNUM := hide (numL_none hat)
  clear hat
  go_wp2
  go_ret2
  exact ⟨v3, by rw [unhide HNUM]; rfl, (fun u hu => by rw [unhide HNUM] at hu; cases hu), unhide HG⟩
set_option maxRecDepth 100000 in
set_option maxHeartbeats 4000000 in
theorem count_any (x : List UInt8) (w : World) : Calls Tryz.prog 50 #[.string (strA x)] w fun e w' => e = .returned (.int .i64 (countW x)) ∧ w' = w := by
 by_cases e0 : x = wDisk
 ·have b0 := eqw (l := [100, 105, 115, 107]) e0
  have HC := hide (show countW x = 0 by rw [e0]; decide)
  clear e0
  go_enter Tryz.func50, Tryz.ntmps50
  go_wp2
  go_ret
  rw [unhide HC]
  exact ⟨rfl, rfl⟩
 ·have b0 := neqw (l := [100, 105, 115, 107]) e0
  by_cases e1 : x = wLog
  ·have b1 := eqw (l := [108, 111, 103]) e1
   have HC := hide (show countW x = 0 by rw [e1]; decide)
   clear e0 e1
   go_enter Tryz.func50, Tryz.ntmps50
   go_wp2
   go_ret
   rw [unhide HC]
   exact ⟨rfl, rfl⟩
  ·have b1 := neqw (l := [108, 111, 103]) e1
   by_cases e2 : x = wOpen
   ·have b2 := eqw (l := [111, 112, 101, 110]) e2
    have HC := hide (show countW x = 1 by rw [e2]; decide)
    clear e0 e1 e2
    go_enter Tryz.func50, Tryz.ntmps50
    go_wp2
    go_ret
    rw [unhide HC]
    exact ⟨rfl, rfl⟩
   ·have b2 := neqw (l := [111, 112, 101, 110]) e2
    by_cases e3 : x = wDown
    ·have b3 := eqw (l := [100, 111, 119, 110]) e3
     have HC := hide (show countW x = 1 by rw [e3]; decide)
     clear e0 e1 e2 e3
     go_enter Tryz.func50, Tryz.ntmps50
     go_wp2
     go_ret
     rw [unhide HC]
     exact ⟨rfl, rfl⟩
    ·have b3 := neqw (l := [100, 111, 119, 110]) e3
     by_cases e4 : x = wTick
     ·have b4 := eqw (l := [116, 105, 99, 107]) e4
      have HC := hide (show countW x = 1 by rw [e4]; decide)
      clear e0 e1 e2 e3 e4
      go_enter Tryz.func50, Tryz.ntmps50
      go_wp2
      go_ret
      rw [unhide HC]
      exact ⟨rfl, rfl⟩
     ·have b4 := neqw (l := [116, 105, 99, 107]) e4
      by_cases e5 : x = wHolders
      ·have b5 := eqw (l := [104, 111, 108, 100, 101, 114, 115]) e5
       have HC := hide (show countW x = 1 by rw [e5]; decide)
       clear e0 e1 e2 e3 e4 e5
       go_enter Tryz.func50, Tryz.ntmps50
       go_wp2
       go_ret
       rw [unhide HC]
       exact ⟨rfl, rfl⟩
      ·have b5 := neqw (l := [104, 111, 108, 100, 101, 114, 115]) e5
       by_cases e6 : x = wAdd
       ·have b6 := eqw (l := [97, 100, 100]) e6
        have HC := hide (show countW x = 2 by rw [e6]; decide)
        clear e0 e1 e2 e3 e4 e5 e6
        go_enter Tryz.func50, Tryz.ntmps50
        go_wp2
        go_ret
        rw [unhide HC]
        exact ⟨rfl, rfl⟩
       ·have b6 := neqw (l := [97, 100, 100]) e6
        by_cases e7 : x = wJob
        ·have b7 := eqw (l := [106, 111, 98]) e7
         have HC := hide (show countW x = 2 by rw [e7]; decide)
         clear e0 e1 e2 e3 e4 e5 e6 e7
         go_enter Tryz.func50, Tryz.ntmps50
         go_wp2
         go_ret
         rw [unhide HC]
         exact ⟨rfl, rfl⟩
        ·have b7 := neqw (l := [106, 111, 98]) e7
         by_cases e8 : x = wTake
         ·have b8 := eqw (l := [116, 97, 107, 101]) e8
          have HC := hide (show countW x = 3 by rw [e8]; decide)
          clear e0 e1 e2 e3 e4 e5 e6 e7 e8
          go_enter Tryz.func50, Tryz.ntmps50
          go_wp2
          go_ret
          rw [unhide HC]
          exact ⟨rfl, rfl⟩
         ·have b8 := neqw (l := [116, 97, 107, 101]) e8
          by_cases e9 : x = wDone
          ·have b9 := eqw (l := [100, 111, 110, 101]) e9
           have HC := hide (show countW x = 4 by rw [e9]; decide)
           clear e0 e1 e2 e3 e4 e5 e6 e7 e8 e9
           go_enter Tryz.func50, Tryz.ntmps50
           go_wp2
           go_ret
           rw [unhide HC]
           exact ⟨rfl, rfl⟩
          ·have b9 := neqw (l := [100, 111, 110, 101]) e9
           by_cases e10 : x = wDrop
           ·have b10 := eqw (l := [100, 114, 111, 112]) e10
            have HC := hide (show countW x = 4 by rw [e10]; decide)
            clear e0 e1 e2 e3 e4 e5 e6 e7 e8 e9 e10
            go_enter Tryz.func50, Tryz.ntmps50
            go_wp2
            go_ret
            rw [unhide HC]
            exact ⟨rfl, rfl⟩
           ·have b10 := neqw (l := [100, 114, 111, 112]) e10
            by_cases e11 : x = wRenew
            ·have b11 := eqw (l := [114, 101, 110, 101, 119]) e11
             have HC := hide (show countW x = 5 by rw [e11]; decide)
             clear e0 e1 e2 e3 e4 e5 e6 e7 e8 e9 e10 e11
             go_enter Tryz.func50, Tryz.ntmps50
             go_wp2
             go_ret
             rw [unhide HC]
             exact ⟨rfl, rfl⟩
            ·have b11 := neqw (l := [114, 101, 110, 101, 119]) e11
             have HC := hide (show countW x = -1 by unfold countW; rw [if_neg (not_or.2 ⟨e0, e1⟩), if_neg (by rintro (h | h | h | h); exact e2 h; exact e3 h; exact e4 h; exact e5 h), if_neg (not_or.2 ⟨e6, e7⟩), if_neg e8, if_neg (not_or.2 ⟨e9, e10⟩), if_neg e11])
             clear e0 e1 e2 e3 e4 e5 e6 e7 e8 e9 e10 e11
             go_enter Tryz.func50, Tryz.ntmps50
             go_wp2
             go_ret
             rw [unhide HC]
             exact ⟨rfl, rfl⟩
set_option maxRecDepth 100000 in
set_option maxHeartbeats 4000000 in
theorem with_any (s : List UInt8) (a : Option Addr) (n c : Nat) (l : List Int) (w : World) (hl : l.length = n) (hn : n ≤ 100000) (h : Nms w a l) (hv : Vars w) :
  Calls Tryz.prog 30 #[.string (strA s), .slice a n c] w fun e w' => ∃ v, e = .returned v ∧ w'.ownsRow w.heap.size 9 1 v (n + 1) (strsC (s :: l.map Lib.itoa)) ∧ Chg [] w w' := by
 obtain ⟨i0, hi, hz0, hz1, hz2⟩ := kInfoParts strInfoC
 have HH := hide h
 have HL := hide hl
 have HV := hide hv
 clear h hl hv
 go_enter Tryz.func30, Tryz.ntmps30
 go_wp2_with fail
 have O1 := own_one w (strA s)
 have k1 := (Chg.refl [] w).alloc (.cells #[.string (strA s)] 9)
 go_loopw [5, 12] (fun v i wr => ∃ k : Nat, k ≤ n ∧ i = .int .i64 k ∧ wr.ownsRow w.heap.size 9 1 v (k + 1) (strsC (s :: (l.take k).map Lib.itoa)) ∧ Chg [] w wr) (fun _ i _ => n - (intOf i).toNat)
 case atStart => exact ⟨0, by omega, rfl, O1, k1⟩
 case round =>
  clear O1 k1
  obtain ⟨k, hk, rfl, hown, hG⟩ := hrel
  by_cases hlt : k < n
  ·have hki : (k : Int) < (n : Int) := by omega
   have hk0 : (0 : Int) ≤ (k : Int) := by omega
   obtain ⟨hb, h0 | ⟨g, off, rfl, hg, hc⟩⟩ := (unhide HH).chg hG
   ·exfalso; have := unhide HL; rw [h0] at this; simp at this; omega
   obtain ⟨x, hx⟩ : ∃ x, l[k]? = some x := ⟨_, List.getElem?_eq_getElem (by rw [unhide HL]; exact hlt)⟩
   have p0 := hc k x hx
   have hx64 := hb x (List.mem_of_getElem? hx)
   have HT := hide (show strsC (s :: (l.take (k + 1)).map Lib.itoa) = strsC (s :: (l.take k).map Lib.itoa) ++ [.string (strA (Lib.itoa x))] by rw [List.take_add_one, hx, Option.toList_some, List.map_append, ← List.cons_append]; exact strsC_snoc _ _)
   clear hb hc hx
   have OW := hide hown
   have HG := hide hG
   have zG := hG.size
   clear hown hG
   generalize strsC (s :: (l.take k).map Lib.itoa) = xs at *
   go_wp2_with (first
    | (go_at_call 57; refine (itoa_any x _ hx64 ((unhide HV).chg (unhide HG))).mono ?_; rintro e w4 ⟨rfl, g4⟩; have O4 := own_chg (unhide OW) g4; have G4 := (unhide HG).trans g4 (by simp); have z4 := G4.size; clear g4)
    | (at_builtin; refine wpList_append_own _ rfl (.tmp 16) (.tmp 19) 22 rfl w.heap.size 9 i0 _ 1 16 Tryz.underlying22 hi hz0 hz1 hz2 rfl (by decide) u5 (k + 1) xs rfl (O4.alloc _) ⟨w4.heap.size, 0, none⟩ 1 1 [.string (strA (Lib.itoa x))] rfl rfl (Blk.new w4 #[.string (strA (Lib.itoa x))] _).news (by simp [Value.oneCell']) (by unfold maxLen; omega) (by omega) (by simp; omega) ?_; intro v7 w7 own7 gr7 _; have G7 := (G4.alloc (.cells #[.string (strA (Lib.itoa x))] 9)).grown gr7 (fun y hy => .inr (O4.lt y hy).1); clear gr7))
   go_roundw
   case rel => exact ⟨k + 1, by omega, by go_num, by rw [unhide HT]; exact own7, G7⟩
   case measure => go_light; simp [intOf]; omega
  ·have hki : ¬ (k : Int) < (n : Int) := by omega
   have HT := hide (show l.take k = l by rw [show k = l.length by rw [unhide HL]; omega, List.take_length])
   have HK := hide (show k = n by omega)
   have OW := hide hown
   clear hown
   go_wp2
   go_ret
   have := unhide OW
   rw [unhide HT, unhide HK] at this
   exact ⟨_, rfl, this, hG⟩
set_option maxRecDepth 100000 in
theorem jobwords_any (j : Jb) (w : World) (hj : I64 j.st ∧ I64 j.wk ∧ I64 j.tr ∧ I64 j.un) (hv : Vars w) :
  Calls Tryz.prog 55 #[jbV j] w fun e w' => ∃ v, e = .returned v ∧ w'.ownsRow w.heap.size 9 1 v 5 (strsC (wJob :: [j.st, j.wk, j.tr, j.un].map Lib.itoa)) ∧ Chg [] w w' := by
 have HV := hide hv
 have HJ := hide hj
 clear hv hj
 unfold jbV
 go_enter Tryz.func55, Tryz.ntmps55
 go_wp2_with fail
 have k2 := ((Chg.refl [] w).alloc (.cells #[.int .i64 j.st, .int .i64 j.wk, .int .i64 j.tr, .int .i64 j.un] 99)).alloc (.cells #[.int .i64 j.st, .int .i64 j.wk, .int .i64 j.tr, .int .i64 j.un] 3)
 have B2 := Blk.new1 w (.cells #[.int .i64 j.st, .int .i64 j.wk, .int .i64 j.tr, .int .i64 j.un] 99) #[.int .i64 j.st, .int .i64 j.wk, .int .i64 j.tr, .int .i64 j.un] 3
 refine (with_any wJob _ 4 4 [j.st, j.wk, j.tr, j.un] _ rfl (by omega) (nms_blk (unhide HJ) B2) ((unhide HV).chg k2)).mono ?_
 rintro e w2 ⟨v, rfl, own, g⟩
 have OW := hide (own_base own k2.size)
 have HG := hide (k2.trans g (by simp))
 clear own g k2 B2
 go_wp2
 go_ret
 exact ⟨_, rfl, unhide OW, unhide HG⟩
set_option maxRecDepth 100000 in
set_option maxHeartbeats 2000000 in
theorem grow_any (n : Nat) (w : World) (h1 : 1 ≤ n) (h2 : n ≤ 100000) :
  Calls Tryz.prog 80 #[.slice none 0 0, .int .i64 n] w fun e w' => ∃ v, e = .returned v ∧ w'.ownsRow w.heap.size 9 1 v 0 [] ∧ Chg [] w w' := by
 obtain ⟨i0, hi, hz0, hz1, hz2⟩ := kInfoParts strInfoC
 have d1 : ¬ ((n : Int) < 0) := by omega
 have d2 : (n : Int) > 0 := by omega
 have d3 : (0 : Int) < (n : Int) := by omega
 have hold : (Builtin.firstCells i0.size 0 (.slice none 0 0)).run Tryz.prog w.drew = .ok #[] w.drew := run_firstCells_none w.drew i0.size 0 0 0
 have hrz : ∀ ty, (Builtin.append_ #[22, 3] ty #[.slice none 0 0, .int .i64 n]).run Tryz.prog w =
   .ok (.slice (some ⟨w.heap.size, 0, none⟩) (0 + n) (grownCap w (0 + n) 0 9)) (w.drew.alloc (.cells (([] : List Value).toArray ++ Builtin.zeroCells (Value.string ⟨#[]⟩).cells n ++ Builtin.zeroCells (Value.string ⟨#[]⟩).cells (grownCap w (0 + n) 0 9 - (0 + n))) 9)) := fun ty =>
  Lib.run_append_grow_zeros w 22 3 ty 9 i0 _ .i64 .i64 Tryz.underlying22 Tryz.underlying3 hi hz0 none 0 0 [] hold n (by omega) (by rw [hz1]; decide) (by omega) (by omega) (by rw [hz2]; omega) (by rw [hz2]; exact growslice_fits (by omega) (by omega))
 have hGn : 0 + n ≤ grownCap w (0 + n) 0 9 := grownCap_ge w _ _ _
 have hGm : grownCap w (0 + n) 0 9 ≤ maxLen := grownCap_le_maxLen w (0 + n) 0 9 (by unfold maxLen; omega)
 have hcs : (([] : List Value).toArray ++ Builtin.zeroCells (Value.string ⟨#[]⟩).cells n ++ Builtin.zeroCells (Value.string ⟨#[]⟩).cells (grownCap w (0 + n) 0 9 - (0 + n))).size = grownCap w (0 + n) 0 9 * 1 := by
  have hz1 : (Value.string (⟨#[]⟩ : ByteArray)).cells.size = 1 := rfl
  simp only [Array.size_append, List.size_toArray, size_zeroCells, hz1, List.length_nil]
  omega
 generalize grownCap w (0 + n) 0 9 = G at *
 generalize ([] : List Value).toArray ++ Builtin.zeroCells (Value.string ⟨#[]⟩).cells n ++ Builtin.zeroCells (Value.string ⟨#[]⟩).cells (G - (0 + n)) = cur at *
 have HO := hide (World.ownsRow_made (base := w.heap.size) (e := 9) (size := 1) w.drew cur G (Nat.le_refl _) hGm hcs)
 have hG63 : G ≤ 9223372036854775807 := by unfold maxLen at hGm; omega
 rw [Nat.zero_add] at hrz hGn
 clear hold hcs hGm
 go_enter Tryz.func80, Tryz.ntmps80
 go_wp2_with (at_builtin; refine Lib.wpList_append_run _ rfl _ _ _ _ rfl _ _ rfl rfl _ _ (hrz _) ?_)
 all_goals (go_ret; exact ⟨_, rfl, unhide HO, ((Chg.refl [] w).drew).alloc _⟩)
theorem strs_cell {w : World} {g off : Nat} {l : List (List UInt8)} (h : ∀ i x, l[i]? = some x → w.cell? ⟨g, off + i, none⟩ = some (.string (strA x))) : ∀ (j : Nat) (u : Value), (strsC l)[j]? = some u → w.cell? ((⟨g, off, none⟩ : Addr).add j) = some u := fun j u hu => by
 unfold strsC at hu
 rw [List.getElem?_map] at hu
 cases hx : l[j]? with
 | none => rw [hx] at hu; cases hu
 | some x =>
  rw [hx] at hu
  cases hu
  have e : ((⟨g, off, none⟩ : Addr).add j) = ⟨g, off + j, none⟩ := by unfold Addr.add; split <;> simp_all
  rw [e]
  exact h j x hx
theorem strsC_len (l : List (List UInt8)) : (strsC l).length = l.length := by simp [strsC]
theorem strsC_one (l : List (List UInt8)) : ∀ u ∈ strsC l, u.oneCell' = true := by
 intro u hu
 unfold strsC at hu
 obtain ⟨x, _, rfl⟩ := List.mem_map.1 hu
 rfl
theorem strsC_app (a b : List (List UInt8)) : strsC (a ++ b) = strsC a ++ strsC b := by simp [strsC]
set_option maxRecDepth 100000 in
set_option maxHeartbeats 4000000 in
theorem concat_any (bb g1 o1 n1 c1 g2 o2 n2 c2 : Nat) (A B : List (List UInt8)) (w : World) (hA : A.length = n1) (hB : B.length = n2) (h1 : 1 ≤ n1) (h3 : n1 ≤ 1000) (h4 : n2 ≤ 1000)
  (b0 : w.cell? ⟨bb, 0, none⟩ = some (.slice (some ⟨g1, o1, none⟩) n1 c1)) (b1 : w.cell? ⟨bb, 1, none⟩ = some (.slice (some ⟨g2, o2, none⟩) n2 c2)) (lb : bb < w.heap.size) (l1 : g1 < w.heap.size) (l2 : g2 < w.heap.size)
  (q1 : ∀ i x, A[i]? = some x → w.cell? ⟨g1, o1 + i, none⟩ = some (.string (strA x))) (q2 : ∀ i x, B[i]? = some x → w.cell? ⟨g2, o2 + i, none⟩ = some (.string (strA x))) :
  Calls Tryz.prog 60 #[.slice (some ⟨bb, 0, none⟩) 2 2] w fun e w' => ∃ v, e = .returned v ∧ w'.ownsRow w.heap.size 9 1 v (n1 + n2) (strsC (A ++ B)) ∧ Chg [] w w' := by
 obtain ⟨i0, hi, hz0, hz1, hz2⟩ := kInfoParts strInfoC
 have Q1 := hide q1
 have Q2 := hide q2
 have HA := hide hA
 have HB := hide hB
 clear q1 q2 hA hB
 have s0 : ¬ ((n1 : Int) < 0) := by omega
 have s1 : ¬ ((n1 : Int) + (n2 : Int) < 0) := by omega
 go_enter Tryz.func60, Tryz.ntmps60
 go_wp2_with fail
 go_loop [3, 11] (fun z i => (z = .int .i64 0 ∧ i = .int .i64 0) ∨ (z = .int .i64 (n1 : Int) ∧ i = .int .i64 1) ∨ (z = .int .i64 ((n1 : Int) + (n2 : Int)) ∧ i = .int .i64 2)) (fun _ i => 2 - (intOf i).toNat)
 case atStart => exact .inl ⟨rfl, rfl⟩
 case round =>
  rcases hrel with ⟨rfl, rfl⟩ | ⟨rfl, rfl⟩ | ⟨rfl, rfl⟩
  ·go_wp2
   go_round
   case rel => exact .inr (.inl ⟨by go_num, by go_num⟩)
   case measure => simp [intOf]
  ·go_wp2
   go_round
   case rel => exact .inr (.inr ⟨by go_num, by go_num⟩)
   case measure => simp [intOf]
  ·go_wp2_with fail
   rw [show ((n1 : Int) + (n2 : Int)) = ((n1 + n2 : Nat) : Int) by omega]
   refine (grow_any (n1 + n2) _ (by omega) (by omega)).mono ?_
   rintro e w1 ⟨v, rfl, own1, g1⟩
   have OW := hide own1
   have G1 := hide g1
   clear own1 g1
   go_wp2_with fail
   go_loopw [6, 27] (fun v i wr => (i = .int .i64 0 ∧ wr = w1 ∧ w1.ownsRow w.heap.size 9 1 v 0 []) ∨ (i = .int .i64 1 ∧ Chg [] w wr ∧ wr.ownsRow w.heap.size 9 1 v n1 (strsC A)) ∨ (i = .int .i64 2 ∧ Chg [] w wr ∧ wr.ownsRow w.heap.size 9 1 v (n1 + n2) (strsC (A ++ B)))) (fun _ i _ => 2 - (intOf i).toNat)
   case atStart => exact .inl ⟨rfl, rfl, unhide OW⟩
   case round =>
    clear OW
    rcases hrel with ⟨rfl, rfl, own⟩ | ⟨rfl, G, own⟩ | ⟨rfl, G, own⟩
    ·have G := unhide G1
     have t0 := (G.cell' (p := ⟨bb, 0, none⟩) lb (by simp)).trans b0
     have zz := G.size
     have OW := hide own
     have HG := hide G
     clear own G
     go_wp2_with (at_builtin; refine wpList_append_own _ rfl (.tmp 31) (.tmp 32) 22 rfl w.heap.size 9 i0 _ 1 16 Tryz.underlying22 hi hz0 hz1 hz2 rfl (by decide) u6 0 [] rfl (unhide OW) ⟨g1, o1, none⟩ n1 c1 (strsC A) rfl (by rw [strsC_len, unhide HA]; omega) (strs_cell (fun i x hx => ((unhide HG).cell' (p := ⟨g1, o1 + i, none⟩) l1 (by simp)).trans (unhide Q1 i x hx))) (strsC_one _) (by unfold maxLen; omega) (by omega) (by omega) ?_; intro v7 w7 own7 gr7 _; have G7 := (unhide HG).grown gr7 (fun y hy => .inr ((unhide OW).lt y hy).1); clear gr7)
     go_roundw
     case rel => exact .inr (.inl ⟨by go_num, G7, by simpa using own7⟩)
     case measure => go_light; simp [intOf]
    ·have t1 := (G.cell' (p := ⟨bb, 1, none⟩) lb (by simp)).trans b1
     have zz := G.size
     have OW := hide own
     have HG := hide G
     clear own G
     go_wp2_with (at_builtin; refine wpList_append_own _ rfl (.tmp 31) (.tmp 32) 22 rfl w.heap.size 9 i0 _ 1 16 Tryz.underlying22 hi hz0 hz1 hz2 rfl (by decide) u6 n1 (strsC A) rfl (unhide OW) ⟨g2, o2, none⟩ n2 c2 (strsC B) rfl (by rw [strsC_len, unhide HB]; omega) (strs_cell (fun i x hx => ((unhide HG).cell' (p := ⟨g2, o2 + i, none⟩) l2 (by simp)).trans (unhide Q2 i x hx))) (strsC_one _) (by unfold maxLen; omega) (by omega) (by omega) ?_; intro v7 w7 own7 gr7 _; have G7 := (unhide HG).grown gr7 (fun y hy => .inr ((unhide OW).lt y hy).1); clear gr7)
     go_roundw
     case rel => exact .inr (.inr ⟨by go_num, G7, by rw [strsC_app]; exact own7⟩)
     case measure => go_light; simp [intOf]
    ·have OW := hide own
     have HG := hide G
     clear own G
     go_wp2
     go_ret
     exact ⟨_, rfl, unhide OW, unhide HG⟩
end Go.Proofs.YtllnjiljjodfdacGreatDoor
