/-
 Plain mathematics of the desk: words, numbers, what is told. Nothing here is claimed by itself.
-/
import Derived.Lib.AtoiAll
import Derived.Lib.ItoaNum
import Derived.Test.YtllnjiljjodfdacGreatDoorQShelf
import Derived.Lib.ItoaLen
import Derived.Lib.FieldsP
import Derived.Lib.TrimUEq
import Derived.Test.YtllnjiljjodfdacGreatDoorQgBase
import Derived.Test.YtllnjiljjodfdacGreatDoorQgK1
import Derived.Test.YtllnjiljjodfdacGreatDoorQgC0
namespace Go.Proofs.YtllnjiljjodfdacGreatDoor
open Go.RowKit

def wordsF : List UInt8 → List UInt8 → List (List UInt8)
 | w, [] => if w = [] then [] else [w]
 | w, c :: r => if c = 32 then (if w = [] then [] else [w]) ++ wordsF [] r else wordsF (w ++ [c]) r
def wordsL (l : List UInt8) : List (List UInt8) := wordsF [] l
def strA (l : List UInt8) : ByteArray := ⟨l.toArray⟩
def strV (l : List UInt8) : Value := .string (strA l)
def strsC (ls : List (List UInt8)) : List Value := ls.map strV
theorem strsC_snoc (ls : List (List UInt8)) (l : List UInt8) : strsC (ls ++ [l]) = strsC ls ++ [strV l] := by simp [strsC]
theorem strA_size (l : List UInt8) : (strA l).size = l.length := by simp [strA, ByteArray.size]
theorem strA_app (a b : List UInt8) : strA a ++ strA b = strA (a ++ b) := by unfold strA; rw [ByteArray.mk_append_mk]
theorem strA_toList (s : ByteArray) : strA s.data.toList = s := by cases s; simp [strA]
theorem strA_toL (l : List UInt8) : (strA l).toList = l := by rw [ByteArray.toList_eq]; simp [strA]
theorem wordsF_len : ∀ (l w : List UInt8), (wordsF w l).length ≤ l.length + 1
 | [], w => by unfold wordsF; split <;> simp
 | c :: r, w => by
  unfold wordsF
  split
  ·have := wordsF_len r []
   split <;> simp <;> omega
  ·have := wordsF_len r (w ++ [c])
   simp
   omega
def numL (l : List UInt8) : Option Int := match Lib.atoiAll l with
 | .ok v => if Lib.itoa v = l then some v else none
 | .syntax => none
 | .range => none
def listL (s : List UInt8) (l : List Int) : List UInt8 := s ++ l.flatMap (fun n => 32 :: Lib.itoa n)
theorem strInfo : (Tryz.prog.info? 9).map (fun i => (i.zero, i.size, i.bytes)) = some (some (.string ⟨#[]⟩), 1, 16) := by kernel_rfl
theorem drop_str (s : ByteArray) {k : Nat} (h : k < s.size) : s.data.toList.drop k = s[k] :: s.data.toList.drop (k + 1) := by
 have h' : k < s.data.toList.length := by rw [Array.length_toList]; exact h
 rw [List.drop_eq_getElem_cons h']
 rfl
theorem extract_one (s : ByteArray) {k : Nat} (h : k < s.size) : s.extract k (k + 1) = strA [s[k]] := by
 have h' : k < s.data.size := h
 unfold strA
 apply ByteArray.ext
 rw [ByteArray.data_extract]
 apply Array.ext_getElem?
 intro i
 rw [Array.getElem?_extract]
 by_cases hi : i = 0
 ·subst hi
  rw [if_pos (by omega), Nat.add_zero, Array.getElem?_eq_getElem h']
  rfl
 ·rw [if_neg (by omega)]
  simp
  omega
theorem u8_eq (c : UInt8) : ((c.toNat : Int) == 32) = decide (c = 32) := by
 by_cases h : c = 32
 ·subst h; rfl
 ·simp [h]
  intro e
  apply h
  apply UInt8.toNat_inj.1
  have : c.toNat = 32 := by omega
  rw [this]
  rfl
set_option maxRecDepth 100000 in
set_option maxHeartbeats 4000000 in
theorem words_any (s : ByteArray) (w : World) (hs : s.size ≤ 1000000) :
  Calls Tryz.prog 38 #[.string s] w fun e w' => ∃ v, e = .returned v ∧ w'.ownsRow w.heap.size 9 1 v (wordsL s.data.toList).length (strsC (wordsL s.data.toList)) ∧ Chg [] w w' := by
 obtain ⟨i0, hi, hz0, hz1, hz2⟩ := kInfoParts strInfo
 go_enter Tryz.func38, Tryz.ntmps38
 go_wp2_with fail
 go_loopw [3, 4, 5] (fun v u i wr => ∃ (k : Nat) (ws : List (List UInt8)) (x : List UInt8), k ≤ s.size + 1 ∧ i = .int .i64 k ∧ u = .string (strA x) ∧ x.length ≤ k ∧ Hid (wordsL s.data.toList = if k ≤ s.size then ws ++ wordsF x (s.data.toList.drop k) else ws) ∧ ws.length ≤ k ∧ wr.ownsRow w.heap.size 9 1 v ws.length (strsC ws) ∧ Chg [] w wr) (fun _ _ i _ => s.size + 1 - (intOf i).toNat)
 case atStart => exact ⟨0, [], [], by omega, rfl, rfl, by simp, hide (by rw [if_pos (by omega)]; rfl), by simp, World.ownsRow_nil _ _ _ _, Chg.refl _ _⟩
 case round =>
  obtain ⟨k, ws, x, hk, rfl, rfl, hx, HW, hwl, hown, hG⟩ := hrel
  have hsz := strA_size x
  by_cases hle : k ≤ s.size
  ·have dle : decide ((k : Int) ≤ (s.size : Int)) = true := by simp; omega
   have zG := hG.size
   by_cases hlt : k < s.size
   ·have dlt : decide ((k : Int) < (s.size : Int)) = true := by simp; omega
    have hk0 : (0 : Int) ≤ (k : Int) := by omega
    have hki : (k : Int) < (s.size : Int) := by omega
    have hk1 : (k : Int) + 1 ≤ (s.size : Int) := by omega
    by_cases hne : s[k]'hlt = 32
    ·have cb : (((s[k]'hlt).toNat : Int) == 32) = true := by rw [u8_eq]; simpa using hne
     have HN := hide (show wordsL s.data.toList = if k + 1 ≤ s.size then (ws ++ (if x = [] then [] else [x])) ++ wordsF [] (s.data.toList.drop (k + 1)) else (ws ++ (if x = [] then [] else [x])) by rw [unhide HW, if_pos hle, if_pos (by omega), drop_str s hlt, wordsF, if_pos hne, List.append_assoc])
     clear HW hne
     by_cases hx0 : x = []
     ·skip
      have xb : (strA x).toList.isEmpty = true := by rw [strA_toL, hx0]; rfl
      have HX0 := hide hx0
      clear hx0
      go_wp2
      go_roundw
      case rel => exact ⟨k + 1, ws, [], by omega, by go_num, rfl, by simp, hide (by rw [unhide HN, if_pos (unhide HX0), List.append_nil]), by omega, hown, hG⟩
      case measure => go_light; simp [intOf]; omega
     ·skip
      have xb : (strA x).toList.isEmpty = false := by rw [strA_toL]; cases x with | nil => exact absurd rfl hx0 | cons _ _ => rfl
      have HX0 := hide hx0
      clear hx0
      go_wp2_with (at_builtin; refine wpList_append_own _ rfl (.tmp 31) (.tmp 33) 22 rfl w.heap.size 9 i0 _ 1 16 Tryz.underlying22 hi hz0 hz1 hz2 rfl (by decide) u3 ws.length (strsC ws) rfl (hown.alloc _) ⟨wr.heap.size, 0, none⟩ 1 1 [strV x] rfl rfl (Blk.new wr #[strV x] _).news (by simp [strV, Value.oneCell']) (by unfold maxLen; omega) (by omega) (by simp; omega) ?_; intro v4 w4 own4 gr4 _; have G4 := (hG.alloc _).grown gr4 (fun j hj => .inr (hown.lt j hj).1); clear gr4)
      go_roundw
      case rel => exact ⟨k + 1, ws ++ [x], [], by omega, by go_num, rfl, by simp, hide (by rw [unhide HN, if_neg (unhide HX0)]), by simp; omega, by rw [strsC_snoc, List.length_append]; exact own4, G4⟩
      case measure => go_light; simp [intOf]; omega
    ·have cb : (((s[k]'hlt).toNat : Int) == 32) = false := by rw [u8_eq]; simpa using hne
     have hex := extract_one s hlt
     have hs1 : (strA [s[k]'hlt]).size = 1 := strA_size _
     have hb1 : ¬ 9223372036854775807 < x.length + 1 := by omega
     have hadd : strA x ++ strA [s[k]'hlt] = strA (x ++ [s[k]'hlt]) := strA_app _ _
     have HE := hide (show wordsF x (s.data.toList.drop k) = wordsF (x ++ [s[k]'hlt]) (s.data.toList.drop (k + 1)) by rw [drop_str s hlt, wordsF, if_neg hne])
     go_wp2
     go_roundw
     case rel => exact ⟨k + 1, ws, x ++ [s[k]'hlt], by omega, by go_num, rfl, by simp; omega, hide (by rw [unhide HW, if_pos hle, if_pos (by omega), unhide HE]), by omega, hown, hG⟩
     case measure => go_light; simp [intOf]; omega
   ·have dlt : decide ((k : Int) < (s.size : Int)) = false := by simp; omega
    have hke : k = s.size := by omega
    have HN := hide (show wordsL s.data.toList = if k + 1 ≤ s.size then (ws ++ (if x = [] then [] else [x])) ++ wordsF [] (s.data.toList.drop (k + 1)) else (ws ++ (if x = [] then [] else [x])) by
     rw [unhide HW, if_pos hle, if_neg (by omega), List.drop_eq_nil_of_le (by rw [Array.length_toList]; show s.data.size ≤ k; exact Nat.le_of_eq hke.symm), wordsF])
    clear HW hke
    by_cases hx0 : x = []
    ·skip
     have xb : (strA x).toList.isEmpty = true := by rw [strA_toL, hx0]; rfl
     have HX0 := hide hx0
     clear hx0
     go_wp2
     go_roundw
     case rel => exact ⟨k + 1, ws, [], by omega, by go_num, rfl, by simp, hide (by rw [unhide HN, if_pos (unhide HX0), List.append_nil]), by omega, hown, hG⟩
     case measure => go_light; simp [intOf]; omega
    ·skip
     have xb : (strA x).toList.isEmpty = false := by rw [strA_toL]; cases x with | nil => exact absurd rfl hx0 | cons _ _ => rfl
     have HX0 := hide hx0
     clear hx0
     go_wp2_with (at_builtin; refine wpList_append_own _ rfl (.tmp 31) (.tmp 33) 22 rfl w.heap.size 9 i0 _ 1 16 Tryz.underlying22 hi hz0 hz1 hz2 rfl (by decide) u3 ws.length (strsC ws) rfl (hown.alloc _) ⟨wr.heap.size, 0, none⟩ 1 1 [strV x] rfl rfl (Blk.new wr #[strV x] _).news (by simp [strV, Value.oneCell']) (by unfold maxLen; omega) (by omega) (by simp; omega) ?_; intro v4 w4 own4 gr4 _; have G4 := (hG.alloc _).grown gr4 (fun j hj => .inr (hown.lt j hj).1); clear gr4)
     go_roundw
     case rel => exact ⟨k + 1, ws ++ [x], [], by omega, by go_num, rfl, by simp, hide (by rw [unhide HN, if_neg (unhide HX0)]), by simp; omega, by rw [strsC_snoc, List.length_append]; exact own4, G4⟩
     case measure => go_light; simp [intOf]; omega
  ·have dle : decide ((k : Int) ≤ (s.size : Int)) = false := by simp; omega
   have HN := hide (show wordsL s.data.toList = ws by rw [unhide HW, if_neg hle])
   go_wp2
   go_ret
   rw [unhide HN]
   exact ⟨_, rfl, hown, hG⟩
theorem var_chg {P : Program} {w w' : World} {name : String} {cs : Array Value} (h : w.var? P name = some cs) (k : Chg [] w w') : w'.var? P name = some cs := by
 unfold World.var? at h ⊢
 cases hg : P.globalNamed name with
 | none => rw [hg] at h; cases h
 | some g =>
  rw [hg] at h
  simp only [Option.bind_some] at h ⊢
  have hl : g < w.heap.size := by
   rcases Nat.lt_or_ge g w.heap.size with h1 | h1
   ·exact h1
   ·rw [Array.getElem?_eq_none h1] at h; cases h
  rw [k.block g hl (by simp)]
  exact h
structure Vars (w : World) : Prop where
 tab : Lib.TabIs Tryz.prog w "internal/strconv.uint64pow10" .u64 Lib.pow10Tab
 syn : ∃ tp p, w.var? Tryz.prog "strconv.ErrSyntax" = some #[.iface tp p]
 rng : ∃ tp p, w.var? Tryz.prog "strconv.ErrRange" = some #[.iface tp p]
theorem Vars.chg {w w' : World} (h : Vars w) (k : Chg [] w w') : Vars w' := by
 obtain ⟨h1, ⟨a, b, h2⟩, ⟨c, d, h3⟩⟩ := h
 exact ⟨var_chg h1 k, ⟨a, b, var_chg h2 k⟩, ⟨c, d, var_chg h3 k⟩⟩
theorem Chg.grow (w : World) (k : Nat) (os : Array Obj) : Chg [] w (Sort.grow (w.drewN k) os) :=
 ⟨rfl, rfl, rfl, by simp [Sort.grow, World.drewN], fun i hi _ => by simp [Sort.grow, World.drewN, Array.getElem?_append_left hi]⟩
def I64 (n : Int) : Prop := -9223372036854775808 ≤ n ∧ n ≤ 9223372036854775807
theorem num_any (n : Int) (w : World) (hn : I64 n) (hv : Vars w) :
  Calls Tryz.prog 41 #[.int .i64 n] w fun e w' => e = .returned (.string (strA (Lib.itoa n))) ∧ Chg [] w w' := by
 go_enter Tryz.func41, Tryz.ntmps41
 go_wp2_with (go_at_call 57; refine (Tryz.strconv_Itoa n hn.1 hn.2 _ hv.tab).mono ?_; rintro e w1 ⟨rfl, k, os, rfl⟩)
 go_ret
 exact ⟨rfl, Chg.grow _ _ _⟩
def Nms (w : World) (a : Option Addr) (l : List Int) : Prop :=
 (∀ x ∈ l, I64 x) ∧ (l = [] ∨ ∃ g off, a = some ⟨g, off, none⟩ ∧ g < w.heap.size ∧ ∀ i x, l[i]? = some x → w.cell? ⟨g, off + i, none⟩ = some (.int .i64 x))
theorem Nms.chg {w w' : World} {a : Option Addr} {l : List Int} (h : Nms w a l) (k : Chg [] w w') : Nms w' a l := by
 obtain ⟨h1, h | ⟨g, off, e, hb, hc⟩⟩ := h
 ·exact ⟨h1, .inl h⟩
 ·exact ⟨h1, .inr ⟨g, off, e, Nat.lt_of_lt_of_le hb k.size, fun i x hx => by rw [k.cell' hb (by simp)]; exact hc i x hx⟩⟩
theorem listL_len (s : List UInt8) : ∀ l : List Int, (∀ x ∈ l, I64 x) → (listL s l).length ≤ s.length + 22 * l.length := by
 intro l h
 unfold listL
 rw [List.length_append]
 have : (l.flatMap (fun n => 32 :: Lib.itoa n)).length ≤ 22 * l.length := by
  induction l with
  | nil => simp
  | cons x l ih =>
   have h1 := h x (by simp)
   have h2 := Lib.itoa_length_le x h1.1 h1.2
   have h3 := ih (fun y hy => h y (by simp [hy]))
   rw [List.flatMap_cons, List.length_append, List.length_cons, List.length_cons]
   omega
 omega
theorem listL_snoc (s : List UInt8) (l : List Int) (n : Int) : listL s (l ++ [n]) = listL s l ++ ([32] ++ Lib.itoa n) := by
 unfold listL
 rw [List.flatMap_append]
 simp
set_option maxRecDepth 100000 in
set_option maxHeartbeats 4000000 in
theorem list_any (s : List UInt8) (a : Option Addr) (n c : Nat) (l : List Int) (w : World) (hl : l.length = n) (hn : n ≤ 100000) (hs : s.length ≤ 100000) (h : Nms w a l) (hv : Vars w) :
  Calls Tryz.prog 44 #[.string (strA s), .slice a n c] w fun e w' => e = .returned (.string (strA (listL s l))) ∧ Chg [] w w' := by
 have HH := hide h
 have HL := hide hl
 have HV := hide hv
 clear h hl hv
 go_enter Tryz.func44, Tryz.ntmps44
 go_wp2_with fail
 go_loopw [0, 5] (fun u i wr => ∃ k : Nat, k ≤ n ∧ i = .int .i64 k ∧ u = .string (strA (listL s (l.take k))) ∧ Chg [] w wr) (fun _ i _ => n - (intOf i).toNat)
 case atStart => exact ⟨0, by omega, rfl, by simp [listL], Chg.refl _ _⟩
 case round =>
  obtain ⟨k, hk, rfl, rfl, hG⟩ := hrel
  by_cases hlt : k < n
  ·have hki : (k : Int) < (n : Int) := by omega
   have hk0 : (0 : Int) ≤ (k : Int) := by omega
   obtain ⟨hb, h0 | ⟨g, off, rfl, hg, hc⟩⟩ := (unhide HH).chg hG
   ·exfalso; have := unhide HL; rw [h0] at this; simp at this; omega
   obtain ⟨x, hx⟩ : ∃ x, l[k]? = some x := ⟨_, List.getElem?_eq_getElem (by rw [unhide HL]; exact hlt)⟩
   have p0 := hc k x hx
   have hx64 := hb x (List.mem_of_getElem? hx)
   have hln := listL_len s (l.take k) (fun y hy => hb y (List.mem_of_mem_take hy))
   have htk : (l.take k).length ≤ n := by rw [List.length_take]; omega
   have HT := hide (show listL s (l.take (k + 1)) = listL s (l.take k) ++ (32 :: Lib.itoa x) by rw [List.take_add_one, hx]; exact listL_snoc _ _ _)
   have hsz1 := strA_size (listL s (l.take k))
   have hsz2 := strA_size (Lib.itoa x)
   have hit := Lib.itoa_length_le x hx64.1 hx64.2
   generalize listL s (l.take k) = y at *
   have hc32 : ({ data := #[32] } : ByteArray) ++ strA (Lib.itoa x) = strA (32 :: Lib.itoa x) := strA_app [32] _
   have hsz3 := strA_size (32 :: Lib.itoa x)
   have hadd := strA_app y (32 :: Lib.itoa x)
   have hone : ({ data := #[32] } : ByteArray).size = 1 := rfl
   have hb1 : ¬ 9223372036854775807 < 1 + (Lib.itoa x).length := by omega
   have hl3 : (32 :: Lib.itoa x).length = (Lib.itoa x).length + 1 := by simp
   rw [hl3] at hsz3
   have hb2 : ¬ 9223372036854775807 < y.length + ((Lib.itoa x).length + 1) := by omega
   clear hb hc hx hln htk hl3 hit
   go_wp2_with (go_at_call 41; refine (num_any x _ hx64 ((unhide HV).chg hG)).mono ?_; rintro e w2 ⟨rfl, g2⟩; have G2 := hG.trans g2 (by simp); clear g2)
   go_roundw
   case rel => exact ⟨k + 1, by omega, by go_num, by rw [unhide HT], G2⟩
   case measure => go_light; simp [intOf]; omega
  ·have hki : ¬ (k : Int) < (n : Int) := by omega
   have HT := hide (show l.take k = l by rw [show k = l.length by rw [unhide HL]; omega, List.take_length])
   go_wp2
   go_ret
   rw [unhide HT]
   exact ⟨rfl, hG⟩
def Dsk7 (w : World) (db cb : Nat) (told : List UInt8) : Prop := Blk w db #[.string (strA told), .pointer (some ⟨cb, 0, none⟩)] 55
set_option maxRecDepth 100000 in
theorem say_any (db cb : Nat) (told s : List UInt8) (w : World) (h : Dsk7 w db cb told) (hl : told.length + s.length ≤ 1000000000) :
  Calls Tryz.prog 39 #[.pointer (some ⟨db, 0, none⟩), .string (strA s)] w fun e w' => e = .returned (.tuple #[]) ∧ Dsk7 w' db cb (told ++ (s ++ [10])) ∧ Chg [db] w w' := by
 have c0 : w.cell? ⟨db, 0, none⟩ = some (.string (strA told)) := Blk.cell h 0
 have f0 := Blk.fz h 0
 have lb := Blk.lt h
 have HH := hide h
 have hsz1 := strA_size s
 have hsz2 := strA_size told
 have hc : strA s ++ ({ data := #[10] } : ByteArray) = strA (s ++ [10]) := strA_app s [10]
 have hsz3 : (strA (s ++ [10])).size = s.length + 1 := by rw [strA_size]; simp
 have hadd := strA_app told (s ++ [10])
 have hone : ({ data := #[10] } : ByteArray).size = 1 := rfl
 have hb1 : ¬ 9223372036854775807 < s.length + 1 := by omega
 have hb2 : ¬ 9223372036854775807 < told.length + (s.length + 1) := by omega
 clear h
 go_enter Tryz.func39, Tryz.ntmps39
 go_wp2
 go_end0
 exact ⟨rfl, Blk.set (unhide HH) 0 _, (Chg.refl _ _).setCell (by simp) _⟩
def Strs (w : World) (a : Option Addr) (ls : List (List UInt8)) : Prop :=
 ls = [] ∨ ∃ g off, a = some ⟨g, off, none⟩ ∧ g < w.heap.size ∧ ∀ i x, ls[i]? = some x → w.cell? ⟨g, off + i, none⟩ = some (.string (strA x))
theorem Strs.chg {w w' : World} {a : Option Addr} {ls : List (List UInt8)} (h : Strs w a ls) (k : Chg [] w w') : Strs w' a ls := by
 rcases h with h | ⟨g, off, e, hb, hc⟩
 ·exact .inl h
 ·exact .inr ⟨g, off, e, Nat.lt_of_lt_of_le hb k.size, fun i x hx => by rw [k.cell' hb (by simp)]; exact hc i x hx⟩
theorem own_strs {w : World} {base : Nat} {e : TypeId} {v : Value} {ls : List (List UInt8)} (h : w.ownsRow base e 1 v ls.length (strsC ls)) : ∃ a c, v = .slice a ls.length c ∧ ls.length ≤ c ∧ Strs w a ls := by
 by_cases h0 : ls.length = 0
 ·have hn : ls = [] := List.eq_nil_of_length_eq_zero h0
  obtain ⟨_, ⟨rfl, _⟩ | ⟨g, c, cur, rfl, _, _, hc, _⟩⟩ := h
  ·exact ⟨none, 0, by rw [h0], by omega, .inl hn⟩
  ·exact ⟨_, c, rfl, hc, .inl hn⟩
 ·have hl := h.lt
  have hcell := fun g => h.cells (g := g)
  obtain ⟨_, ⟨_, h1⟩ | ⟨g, c, cur, e1, hb, _, hc, _⟩⟩ := h
  ·omega
  ·refine ⟨_, c, e1, hc, .inr ⟨g, 0, rfl, (hl g (by rw [e1]; rfl)).2, fun i x hx => ?_⟩⟩
   have := hcell g (by rw [e1]; rfl) i (strV x) (by unfold strsC; rw [List.getElem?_map, hx]; rfl)
   have e2 : ((⟨g, 0, none⟩ : Addr).add i) = ⟨g, 0 + i, none⟩ := by unfold Addr.add; split <;> simp_all
   rw [e2] at this
   exact this
def hasNL (l : List UInt8) : Bool := l.any (· == 10)
def faultL (ls : List (List UInt8)) : Int × Int := if 150 < ls.length then (12, -1) else match ls.findIdx? hasNL with
 | some i => (13, i)
 | none => (0, 0)
theorem faultL_at {ls : List (List UInt8)} {k : Nat} {x : List UInt8} (h : ¬ 150 < ls.length) (hj : ∀ (j : Nat) (y : List UInt8), j < k → ls[j]? = some y → hasNL y = false) (hx : ls[k]? = some x) (hn : hasNL x = true) : faultL ls = ((13 : Int), (k : Int)) := by
 unfold faultL
 rw [if_neg h]
 have hk : k < ls.length := (List.getElem?_eq_some_iff.1 hx).1
 have : ls.findIdx? hasNL = some k := by
  rw [List.findIdx?_eq_some_iff_getElem]
  refine ⟨hk, ?_, fun j hjk => ?_⟩
  ·rw [(List.getElem?_eq_some_iff.1 hx).2]; exact hn
  ·have := hj j _ hjk (List.getElem?_eq_getElem (by omega))
   simp [this]
 rw [this]
theorem faultL_none {ls : List (List UInt8)} (h : ¬ 150 < ls.length) (hj : ∀ (j : Nat) (y : List UInt8), ls[j]? = some y → hasNL y = false) : faultL ls = (0, 0) := by
 unfold faultL
 rw [if_neg h]
 have : ls.findIdx? hasNL = none := by
  rw [List.findIdx?_eq_none_iff]
  intro y hy
  obtain ⟨j, hj'⟩ := List.getElem?_of_mem hy
  exact hj j y hj'
 rw [this]
theorem fltInfo : (Tryz.prog.info? 31).map (·.size) = some 2 := by kernel_rfl
theorem load_flt {w : World} {b : Nat} {ty' : TypeId} {x y : Value} (h : Blk w b #[x, y] ty') : (loadVar 31 ⟨b, 0, none⟩).run Tryz.prog w = .ok (.agg #[x, y]) w := by
 have hc : w.rangeAt b 0 [x, y] := fun j v hv => by rw [Nat.zero_add, h.cell]; simpa using hv
 exact run_loadVar_mid (P := Tryz.prog) w b 0 31 [x, y] _ hc Tryz.underlying31 rfl (by rw [fltInfo]; rfl)
theorem ret_flt {fn : Func} {q : Tmp} (h : fn.results = #[.cell q 31]) {tmps : Array Value} {w : World} {c : Nat}
  (hq : tmps.getD q undef = .pointer (some ⟨c, 0, none⟩)) {ty'' : TypeId} {x y : Value} (hA : Blk w c #[x, y] ty'') :
  (results fn tmps).run Tryz.prog w = .ok (.agg #[x, y]) w := by
 have ha := load_flt hA
 have hq' : tmps[q]?.getD undef = .pointer (some ⟨c, 0, none⟩) := by simpa using hq
 simp only [results, h]
 simp [hq', asAddr, ha]
theorem flt_any (x y : Int) (w : World) : Calls Tryz.prog 18 #[.int .i64 x, .int .i64 y] w fun e w' => e = .returned (.agg #[.int .i64 x, .int .i64 y]) ∧ Chg [] w w' := by
 go_enter Tryz.func18, Tryz.ntmps18
 go_wp2
 exact bodyPost_ret (ret_flt rfl rfl (Blk.new w _ _)) rfl ⟨rfl, (Chg.refl _ _).alloc _⟩
theorem any_take (l : List UInt8) {k : Nat} (hk : k < l.length) (h : (l.take k).any (· == 10) = false) (hn : ¬ l[k] = 10) : (l.take (k + 1)).any (· == 10) = false := by
 rw [List.take_succ_eq_append_getElem hk, List.any_append, h]
 simp [hn]
theorem u8_ten (c : UInt8) : ((c.toNat : Int) == 10) = decide (c = 10) := by
 by_cases h : c = 10
 ·subst h; rfl
 ·simp [h]
  intro e
  apply h
  apply UInt8.toNat_inj.1
  have : c.toNat = 10 := by omega
  rw [this]
  rfl
theorem get_strA (x : List UInt8) {k : Nat} (h : k < (strA x).size) (h' : k < x.length) : (strA x)[k]'h = x[k]'h' := by
 show x.toArray[k] = _
 simp
set_option maxRecDepth 100000 in
set_option maxHeartbeats 4000000 in
theorem lfault_any (a : Option Addr) (n c : Nat) (ls : List (List UInt8)) (w : World) (hl : ls.length = n) (hs : ∀ x ∈ ls, x.length ≤ 1000000000) (h : Strs w a ls) :
  Calls Tryz.prog 10 #[.slice a n c] w fun e w' => e = .returned (.agg #[.int .i64 (faultL ls).1, .int .i64 (faultL ls).2]) ∧ Chg [] w w' := by
 by_cases hbig : 150 < n
 ·have d1 : decide ((150 : Int) < (n : Int)) = true := by simp; omega
  have HF := hide (show faultL ls = (12, -1) by unfold faultL; rw [if_pos (by omega)])
  clear h hs
  go_enter Tryz.func10, Tryz.ntmps10
  go_wp2_with (go_at_call 18; refine (flt_any 12 (-1) _).mono ?_; rintro e w2 ⟨rfl, g2⟩; have B2 := (Blk.new w #[.int .i64 0, .int .i64 0] 31).chg g2 (by simp); have G2 : Chg [] w w2 := ((Chg.refl [] w).alloc _).trans g2 (by simp); have l2 := B2.lt; have r0 : w2.cell? ⟨w.heap.size, 0, none⟩ = some (.int .i64 0) := B2.cell 0; have r1 : w2.cell? ⟨w.heap.size, 1, none⟩ = some (.int .i64 0) := B2.cell 1; have f0 := B2.fz 0; have f1 := B2.fz 1)
  rw [unhide HF]
  exact bodyPost_ret (ret_flt rfl rfl ((B2.set 0 (.int .i64 12)).set 1 (.int .i64 (-1)))) rfl ⟨rfl, (G2.setCell (p := ⟨w.heap.size, 0, none⟩) (.inr (Nat.le_refl _)) _).setCell (p := ⟨w.heap.size, 1, none⟩) (.inr (Nat.le_refl _)) _⟩
 ·have d1 : decide ((150 : Int) < (n : Int)) = false := by simp; omega
  have HH := hide h
  have HL := hide hl
  have HS := hide hs
  clear h hl hs
  have kW := (Chg.refl [] w).alloc (.cells #[.int .i64 0, .int .i64 0] 31)
  have HH1 := hide ((unhide HH).chg kW)
  go_enter Tryz.func10, Tryz.ntmps10
  go_wp2_with fail
  go_loop [3] (fun i => ∃ j : Nat, j ≤ n ∧ i = .int .i64 j ∧ Hid (∀ q y, q < j → ls[q]? = some y → hasNL y = false)) (fun i => n - (intOf i).toNat)
  case atStart => exact ⟨0, by omega, rfl, hide (fun q y hq => by omega)⟩
  case round =>
   obtain ⟨j, hj, rfl, HP⟩ := hrel
   by_cases hlt : j < n
   ·have hji : (j : Int) < (n : Int) := by omega
    have hj0 : (0 : Int) ≤ (j : Int) := by omega
    rcases unhide HH with h0 | ⟨g, off, rfl, hg, hc⟩
    ·exfalso; have := unhide HL; rw [h0] at this; simp at this; omega
    obtain ⟨x, hx⟩ : ∃ x, ls[j]? = some x := ⟨_, List.getElem?_eq_getElem (by rw [unhide HL]; exact hlt)⟩
    have p0 := hc j x hx
    have hxl := unhide HS x (List.mem_of_getElem? hx)
    have HSZ := hide (strA_size x)
    have hxs : (strA x).size ≤ 1000000000 := by rw [strA_size]; exact hxl
    have HX := hide hx
    clear hxl
    clear hc hx
    go_wp2_with fail
    go_loop [4] (fun i => ∃ k : Nat, k ≤ (strA x).size ∧ i = .int .i64 k ∧ Hid ((x.take k).any (· == 10) = false)) (fun i => (strA x).size - (intOf i).toNat)
    case atStart => exact ⟨0, by omega, rfl, hide (by simp)⟩
    case round =>
     obtain ⟨k, hk, rfl, HK⟩ := hrel
     by_cases hks : k < (strA x).size
     ·have hki : (k : Int) < ((strA x).size : Int) := by omega
      have hk0 : (0 : Int) ≤ (k : Int) := by omega
      have HLK := hide (show k < x.length by rw [← unhide HSZ]; exact hks)
      have HG := hide (get_strA x hks (unhide HLK))
      by_cases h10 : (strA x)[k]'hks = 10
      ·have cb : ((((strA x)[k]'hks).toNat : Int) == 10) = true := by rw [u8_ten]; simpa using h10
       have HN := hide (show hasNL x = true by unfold hasNL; rw [List.any_eq_true]; exact ⟨x[k]'(unhide HLK), List.getElem_mem (unhide HLK), by have e := (unhide HG).symm.trans h10; rw [e]; rfl⟩)
       have HF := hide (faultL_at (by rw [unhide HL]; exact hbig) (unhide HP) (unhide HX) (unhide HN))
       go_wp2_with (go_at_call 18; refine (flt_any 13 (j : Int) _).mono ?_; rintro e w2 ⟨rfl, g2⟩; have B2 := (Blk.new w #[.int .i64 0, .int .i64 0] 31).chg g2 (by simp); have G2 : Chg [] w w2 := ((Chg.refl [] w).alloc _).trans g2 (by simp); have l2 := B2.lt; have r0 : w2.cell? ⟨w.heap.size, 0, none⟩ = some (.int .i64 0) := B2.cell 0; have r1 : w2.cell? ⟨w.heap.size, 1, none⟩ = some (.int .i64 0) := B2.cell 1; have f0 := B2.fz 0; have f1 := B2.fz 1)
       rw [unhide HF]
       exact bodyPost_ret (ret_flt rfl rfl ((B2.set 0 (.int .i64 13)).set 1 (.int .i64 (j : Int)))) rfl ⟨rfl, (G2.setCell (p := ⟨w.heap.size, 0, none⟩) (.inr (Nat.le_refl _)) _).setCell (p := ⟨w.heap.size, 1, none⟩) (.inr (Nat.le_refl _)) _⟩
      ·have cb : ((((strA x)[k]'hks).toNat : Int) == 10) = false := by rw [u8_ten]; simpa using h10
       have HNX := hide (any_take x (unhide HLK) (unhide HK) (by rw [← unhide HG]; exact h10))
       go_wp2
       go_round
       case rel => exact ⟨k + 1, by omega, by go_num, HNX⟩
       case measure => simp [intOf]; omega
     ·have hki : ¬ (k : Int) < ((strA x).size : Int) := by omega
      have HNX := hide (show ∀ q y, q < j + 1 → ls[q]? = some y → hasNL y = false from fun q y hq hy => by
       by_cases e : q = j
       ·subst e
        rw [unhide HX] at hy
        cases hy
        have := unhide HK
        rw [show k = x.length by rw [← unhide HSZ]; omega, List.take_length] at this
        exact this
       ·exact unhide HP q y (by omega) hy)
      go_wp2
      go_round
      case rel => exact ⟨j + 1, by omega, by go_num, HNX⟩
      case measure => simp [intOf]; omega
   ·have hji : ¬ (j : Int) < (n : Int) := by omega
    have HF := hide (faultL_none (ls := ls) (by rw [unhide HL]; exact hbig) (fun q y hy => unhide HP q y (by have := (List.getElem?_eq_some_iff.1 hy).1; rw [unhide HL] at this; omega) hy))
    go_wp2
    rw [unhide HF]
    exact bodyPost_ret (ret_flt rfl rfl (Blk.new w _ _)) rfl ⟨rfl, (Chg.refl _ _).alloc _⟩
def blankR (x : Nat) : Bool := x == 32
theorem wordsF_skip : ∀ (p w r : List UInt8), (∀ c ∈ p, c ≠ 32) → wordsF w (p ++ r) = wordsF (w ++ p) r
 | [], w, r, _ => by simp
 | c :: p, w, r, h => by
  have hc := h c (by simp)
  rw [List.cons_append, wordsF, if_neg hc, wordsF_skip p _ r (fun x hx => h x (by simp [hx]))]
  simp
theorem rune_at (s : ByteArray) (pos : Nat) (h : pos < s.size) :
  (blankR (Utf8.decode s pos).1 = true ∧ (Utf8.decode s pos).2 = 1 ∧ s.data.toList[pos]? = some 32) ∨
  (blankR (Utf8.decode s pos).1 = false ∧ 1 ≤ (Utf8.decode s pos).2 ∧ pos + (Utf8.decode s pos).2 ≤ s.size ∧ ∀ i, i < (Utf8.decode s pos).2 → ∀ c, s.data.toList[pos + i]? = some c → c ≠ 32) := by
 have hsz : s.size = s.data.toList.length := Array.length_toList.symm
 rw [Lib.decode_N]
 generalize s.data.toList = l at *
 rw [hsz] at h ⊢
 have g : ∀ (i : Nat) (c : UInt8), l[pos + i]? = some c → (l.getD (pos + i) 0).toNat = c.toNat := fun i c hc => by simp [List.getD, hc]
 have n32 : ∀ c : UInt8, c.toNat ≠ 32 → c ≠ 32 := fun c hc e => hc (by rw [e]; rfl)
 obtain ⟨c0, hc0⟩ : ∃ c, l[pos]? = some c := ⟨_, List.getElem?_eq_getElem h⟩
 have g0 : (l.getD pos 0).toNat = c0.toNat := g 0 c0 hc0
 have e0 : ∀ i c, i = 0 → l[pos + i]? = some c → c.toNat = c0.toNat := fun i c hi hc => by
  subst hi
  rw [Nat.add_zero, hc0] at hc
  cases hc
  rfl
 have e1 : ∀ i c, i = 1 → l[pos + i]? = some c → c.toNat = (l.getD (pos + 1) 0).toNat := fun i c hi hc => by subst hi; exact (g 1 c hc).symm
 have e2 : ∀ i c, i = 2 → l[pos + i]? = some c → c.toNat = (l.getD (pos + 2) 0).toNat := fun i c hi hc => by subst hi; exact (g 2 c hc).symm
 have e3 : ∀ i c, i = 3 → l[pos + i]? = some c → c.toNat = (l.getD (pos + 3) 0).toNat := fun i c hi hc => by subst hi; exact (g 3 c hc).symm
 rw [g0]
 generalize (l.getD (pos + 1) 0).toNat = b1 at *
 generalize (l.getD (pos + 2) 0).toNat = b2 at *
 generalize (l.getD (pos + 3) 0).toNat = b3 at *
 by_cases hb : c0 = 32
 ·left
  subst hb
  exact ⟨rfl, rfl, hc0⟩
 ·right
  have hb' : c0.toNat ≠ 32 := fun e => hb (UInt8.toNat_inj.1 (by rw [e]; rfl))
  have one : ∀ i, i < 1 → ∀ c, l[pos + i]? = some c → c ≠ 32 := fun i hi c hc => n32 c (by have := e0 i c (by omega) hc; omega)
  unfold Lib.decodeN blankR
  split
  ·exact ⟨by simpa using hb', by simp, by simp; omega, one⟩
  ·split
   ·split
    ·refine ⟨by simp; omega, by simp, by simp; omega, fun i hi c hc => n32 c ?_⟩
     simp at hi
     rcases (show i = 0 ∨ i = 1 by omega) with hh | hh
     ·have := e0 i c hh hc; omega
     ·have := e1 i c hh hc; omega
    ·exact ⟨by simp, by simp, by simp; omega, one⟩
   ·split
    ·split
     ·refine ⟨by simp; omega, by simp, by simp; omega, fun i hi c hc => n32 c ?_⟩
      simp at hi
      rcases (show i = 0 ∨ i = 1 ∨ i = 2 by omega) with hh | hh | hh
      ·have := e0 i c hh hc; omega
      ·have := e1 i c hh hc; omega
      ·have := e2 i c hh hc; omega
     ·exact ⟨by simp, by simp, by simp; omega, one⟩
    ·split
     ·split
      ·refine ⟨by simp; omega, by simp, by simp; omega, fun i hi c hc => n32 c ?_⟩
       simp at hi
       rcases (show i = 0 ∨ i = 1 ∨ i = 2 ∨ i = 3 by omega) with hh | hh | hh | hh
       ·have := e0 i c hh hc; omega
       ·have := e1 i c hh hc; omega
       ·have := e2 i c hh hc; omega
       ·have := e3 i c hh hc; omega
      ·exact ⟨by simp, by simp, by simp; omega, one⟩
     ·exact ⟨by simp, by simp, by simp; omega, one⟩
theorem fields_from (s : ByteArray) : ∀ (f pos : Nat) (st : Option Nat) (acc : List (Nat × Nat)), s.size ≤ pos + f → pos ≤ s.size → (∀ a, st = some a → a < pos) →
  (Lib.closeSpans s (Lib.spansFromP blankR s f pos st acc)).map (fun p => Lib.pieceU s.data.toList p.1 p.2) = acc.map (fun p => Lib.pieceU s.data.toList p.1 p.2) ++ wordsF (Lib.openPiece s.data.toList st pos) (s.data.toList.drop pos) := by
 have hsz : s.size = s.data.toList.length := Array.length_toList.symm
 have ends : ∀ (st : Option Nat) (acc : List (Nat × Nat)), (∀ a, st = some a → a < s.size) → (Lib.closeSpans s (acc, st)).map (fun p => Lib.pieceU s.data.toList p.1 p.2) = acc.map (fun p => Lib.pieceU s.data.toList p.1 p.2) ++ wordsF (Lib.openPiece s.data.toList st s.size) (s.data.toList.drop s.size) := fun st acc hst => by
  rw [List.drop_eq_nil_of_le (by rw [hsz]; exact Nat.le_refl _)]
  cases st with
  | none => simp [Lib.closeSpans, Lib.openPiece, wordsF]
  | some a =>
   have := Lib.pieceU_ne s.data.toList a s.size (hst a rfl) (by rw [hsz]; exact Nat.le_refl _)
   simp [Lib.closeSpans, Lib.openPiece, wordsF, this]
 intro f
 induction f with
 | zero =>
  intro pos st acc h hp hst
  obtain rfl : pos = s.size := by omega
  exact ends st acc hst
 | succ f ih =>
  intro pos st acc h hp hst
  by_cases hlt : pos < s.size
  ·rcases rune_at s pos hlt with ⟨hb, hw, hc⟩ | ⟨hb, hw, hn, hne⟩
   ·have hd : s.data.toList.drop pos = 32 :: s.data.toList.drop (pos + 1) := by
     rw [List.drop_eq_getElem_cons (by rw [← hsz]; exact hlt)]
     congr 1
     exact (List.getElem?_eq_some_iff.1 hc).2
    rw [hd, wordsF, if_pos rfl]
    simp only [Lib.spansFromP, if_pos hlt, hb, hw, if_true]
    cases st with
    | none =>
     have := ih (pos + 1) none acc (by omega) (by omega) (fun a h => by cases h)
     rw [this]
     simp [Lib.openPiece]
    | some a =>
     have hpn := Lib.pieceU_ne s.data.toList a pos (hst a rfl) (by rw [← hsz]; omega)
     have := ih (pos + 1) none (acc ++ [(a, pos)]) (by omega) (by omega) (fun a h => by cases h)
     rw [this]
     simp [Lib.openPiece, hpn]
   ·simp only [Lib.spansFromP, if_pos hlt, hb, Bool.false_eq_true, if_false]
    generalize (Utf8.decode s pos).2 = k at hw hn hne ⊢
    have hd : s.data.toList.drop pos = (s.data.toList.drop pos).take k ++ s.data.toList.drop (pos + k) := by
     have := List.take_append_drop k (s.data.toList.drop pos)
     rw [List.drop_drop] at this
     exact this.symm
    have hall : ∀ c ∈ (s.data.toList.drop pos).take k, c ≠ 32 := fun c hc => by
     obtain ⟨i, hi, he⟩ := List.mem_iff_getElem.1 hc
     rw [List.length_take, List.length_drop] at hi
     refine hne i (by omega) c ?_
     rw [List.getElem_take, List.getElem_drop] at he
     rw [← he]
     exact List.getElem?_eq_getElem _
    rw [hd, wordsF_skip _ _ _ hall]
    cases st with
    | none =>
     have := ih (pos + k) (some pos) acc (by omega) (by omega) (fun a h => by cases h; omega)
     simp only
     rw [this]
     simp [Lib.openPiece, Lib.pieceU]
    | some a =>
     have := ih (pos + k) (some a) acc (by omega) (by omega) (fun b h => by cases h; have := hst a rfl; omega)
     simp only
     rw [this]
     simp only [Lib.openPiece]
     rw [Lib.pieceU_grow _ _ _ _ (Nat.le_of_lt (hst a rfl))]
  ·obtain rfl : pos = s.size := by omega
   rw [Lib.spansFromP_end blankR s _ _ _ _ hlt]
   exact ends st acc hst
theorem fields_words (l : List UInt8) : Lib.goFieldsP blankR (strA l) = (wordsL l).map strA := by
 have h := fields_from (strA l) (strA l).size 0 none [] (by omega) (Nat.zero_le _) (fun a h => by cases h)
 simp only [List.map_nil, List.nil_append, Lib.openPiece, List.drop_zero] at h
 have e0 : (strA l).data.toList = l := by simp [strA]
 rw [e0] at h
 unfold wordsL
 rw [← h]
 unfold Lib.goFieldsP Lib.spansOfP
 rw [List.map_map]
 congr 1
 funext p
 apply ByteArray.ext
 apply Array.ext'
 simp [Lib.pieceU, strA]
end Go.Proofs.YtllnjiljjodfdacGreatDoor
