/-
 The document's own desk: new, and its Do; beside the program's. Nothing here is claimed by itself.
-/
import Derived.Test.YtllnjiljjodfdacGreatDoorQE8
import Derived.Test.YtllnjiljjodfdacGreatDoorQE7l
import Derived.Test.YtllnjiljjodfdacGreatDoorQgEI
namespace Go.Proofs.YtllnjiljjodfdacGreatDoor
open Go.RowKit

section
variable {W0 w w' : World} {db : Nat} {m m' : Cm} {s' : Gd} {t' : List UInt8}
theorem Dn7.cell (X : Dn7 W0 w db m w' s' t' m') {p : Addr} (hp : p.block < w.heap.size) (ho : m.own p.block = 100) (hn : p.block ≠ db) : w'.cell? p = w.cell? p := by
 obtain ⟨bs, c, hb⟩ := X.ch
 refine c.cell' hp (fun h => ?_)
 rcases (hb _ h).1 with h | h
 ·exact h ho
 ·exact hn h
theorem Dn7.blk (X : Dn7 W0 w db m w' s' t' m') {b : Nat} {c : Array Value} {t : TypeId} (h : Blk w b c t) (ho : m.own b = 100) (hn : b ≠ db) : Blk w' b c t := by
 obtain ⟨bs, k, hb⟩ := X.ch
 refine h.chg k (fun h => ?_)
 rcases (hb _ h).1 with h | h
 ·exact h ho
 ·exact hn h
def StrsG (w : World) (db : Nat) (m : Cm) (a : Option Addr) (ls : List (List UInt8)) : Prop :=
 ls = [] ∨ ∃ g off, a = some ⟨g, off, none⟩ ∧ g < w.heap.size ∧ m.own g = 100 ∧ g ≠ db ∧ ∀ i x, ls[i]? = some x → w.cell? ⟨g, off + i, none⟩ = some (.string (strA x))
theorem StrsG.next {a : Option Addr} {ls : List (List UInt8)} (h : StrsG w db m a ls) (X : Dn7 W0 w db m w' s' t' m') : StrsG w' db m' a ls := by
 rcases h with h | ⟨g, off, e, hg, ho, hn, hc⟩
 ·exact .inl h
 ·exact .inr ⟨g, off, e, Nat.lt_of_lt_of_le hg X.size, X.ow g hg ho, hn, fun i x hx => (X.cell (p := ⟨g, off + i, none⟩) hg ho hn).trans (hc i x hx)⟩
theorem Strs.farG {W : World} {s : Gd} {told : List UInt8} {a : Option Addr} {ls : List (List UInt8)} (h : Strs W a ls) (hz : W.heap.size ≤ W0.heap.size) (D : Dk7 W0 w db m s told) (k : Chg [] W w) : StrsG w db m a ls := by
 rcases h with h | ⟨g, off, e, hg, hc⟩
 ·exact .inl h
 ·exact .inr ⟨g, off, e, Nat.lt_of_lt_of_le hg k.size, D.c.lo g (by omega), (fun e => by have := D.b; omega), fun i x hx => (k.cell' (p := ⟨g, off + i, none⟩) hg (by simp)).trans (hc i x hx)⟩
theorem Dk7.long {s : Gd} {told : List UInt8} (D : Dk7 W0 w db m s told) (l : List UInt8) : (lineT s l).2.length ≤ 60000 := by
 obtain ⟨rs, t, pl⟩ := D.c.pl
 exact line_len pl D.c.plt.few l
end
theorem line_any (W0 : World) (db : Nat) (m : Cm) (s : Gd) (told l : List UInt8) (w : World) (h : Dk7 W0 w db m s told) (hl : l.length ≤ 900000) (ht : told.length ≤ 900000000) (hv : Vars W0) :
  Calls Tryz.prog 19 #[.pointer (some ⟨db, 0, none⟩), .string (strA l)] w fun e w' => e = .returned (.tuple #[]) ∧ ∃ m', Dn7 W0 w db m w' (lineT s l).1 (told ++ (lineT s l).2) m' := by
 by_cases hlog : ∃ r, wordsL l = wLog :: r ∧ r.mapM numL = some []
 ·obtain ⟨r, hw, hm⟩ := hlog
  have e : lineT s l = (s, logT s) := by
   unfold lineT
   rw [hw]
   show (if wLog = wTear then _ else numsT s wLog r false 0) = _
   rw [if_neg (by decide)]
   unfold numsT
   rw [hm]
   show cmdT s wLog [] false 0 = _
   unfold cmdT
   rw [show stepW wLog [] false = none by decide]
   show (s, if false = true then sayL wWhat else viewT s wLog []) = _
   rw [if_neg (by decide), view_log]
  rw [e]
  exact line_log W0 db m s told l w h hl ht hv wLog r hw (by decide) [] hm rfl rfl
 ·exact line_most W0 db m s told l w h hl ht hv (fun r h1 h2 => hlog ⟨r, h1, h2⟩)
set_option maxRecDepth 100000 in
theorem rnew_any (w : World) : Calls Tryz.prog 8 #[] w fun e w' => ∃ db m, e = .returned (.pointer (some ⟨db, 0, none⟩)) ∧ Dk7 w w' db m G0 [] := by
 go_enter Tryz.func8, Tryz.ntmps8
 go_wp2
 go_ret
 have B : Blk ((w.alloc (.cells #[.int .i64 0, .slice none 0 0, .pointer none, .pointer none, .pointer none, .int .i64 0] 53)).alloc (.cells #[.string (strA []), .pointer (some ⟨w.heap.size, 0, none⟩)] 55)) w.heap.size #[.int .i64 0, .slice none 0 0, .pointer none, .pointer none, .pointer none, .int .i64 0] 53 := (Blk.new w #[.int .i64 0, .slice none 0 0, .pointer none, .pointer none, .pointer none, .int .i64 0] 53).alloc _
 have D : Blk ((w.alloc (.cells #[.int .i64 0, .slice none 0 0, .pointer none, .pointer none, .pointer none, .int .i64 0] 53)).alloc (.cells #[.string (strA []), .pointer (some ⟨w.heap.size, 0, none⟩)] 55)) (w.heap.size + 1) #[.string (strA []), .pointer (some ⟨w.heap.size, 0, none⟩)] 55 := Blk.new1 w _ _ _
 have k : Chg [] w ((w.alloc (.cells #[.int .i64 0, .slice none 0 0, .pointer none, .pointer none, .pointer none, .int .i64 0] 53)).alloc (.cells #[.string (strA []), .pointer (some ⟨w.heap.size, 0, none⟩)] 55)) := ((Chg.refl [] w).alloc _).alloc _
 refine ⟨w.heap.size + 1, ⟨w.heap.size, .slice none 0 0, fun _ => 0, fun x => if x = w.heap.size then 4 else 100⟩, rfl, ⟨D, ⟨(show Plt 53 #[.pointer none, .pointer none, .pointer none, .int .i64 0] _ w.heap.size 0 (.slice none 0 0) [] from ⟨B, .inl ⟨rfl, rfl⟩, by simp, okB_nil, by simp [Value.ownBlock], by simp [Value.ownBlock]⟩), (fun i n hi hn => by cases hn), ⟨[], [], plG_0⟩, (fun x hx => (mem_fp.1 hx).elim (fun e => if_pos e) (fun e => by simp [Value.ownBlock] at e)), (fun i n hi hn => by cases hn), (fun x hx => if_neg (by omega)), k⟩, if_neg (by omega), by omega⟩⟩
set_option maxRecDepth 100000 in
set_option maxHeartbeats 8000000 in
theorem rdo_any (W0 : World) (db : Nat) (m : Cm) (s : Gd) (told : List UInt8) (a : Option Addr) (n c : Nat) (ls : List (List UInt8)) (w : World) (h : Dk7 W0 w db m s told) (hv : Vars W0) (hl : ls.length = n) (hn : n ≤ 150) (hll : ∀ x ∈ ls, x.length ≤ 900000) (hS : StrsG w db m a ls) :
  Calls Tryz.prog 11 #[.pointer (some ⟨db, 0, none⟩), .slice a n c] w fun e w' => e = .returned (.string (strA (linesT s ls).2)) ∧ ∃ m', Dn7 W0 w db m w' (linesT s ls).1 (linesT s ls).2 m' := by
 have d1 : Dsk7 (w.setCell ⟨db, 0, none⟩ (.string ⟨#[]⟩)) db m.cb [] := Blk.set h.d 0 _
 have g1 : Chg [db] w (w.setCell ⟨db, 0, none⟩ (.string ⟨#[]⟩)) := (Chg.refl _ _).setCell (by simp) _
 have HQ := hide (h.tells (Chg.refl [] w) d1 g1)
 have HS := hide (hS.next (unhide HQ))
 have HL := hide hl
 have HLL := hide hll
 have HV := hide hv
 have zdb := h.lt
 have c0 : w.cell? ⟨db, 0, none⟩ = some (.string (strA told)) := Blk.cell h.d 0
 have f0 := Blk.fz h.d 0
 obtain ⟨m0, hm0⟩ : ∃ m0, m0 = { m with own := grw w.heap.size m.own (fun _ => 100) } := ⟨_, rfl⟩
 have HQ0 := hide (show Dn7 W0 w db m _ s [] m0 by rw [hm0]; exact unhide HQ)
 have HS0 := hide (show StrsG _ db m0 a ls by rw [hm0]; exact unhide HS)
 clear h hl hll hv hS d1 g1 HQ HS hm0
 go_enter Tryz.func11, Tryz.ntmps11
 go_wp2_with fail
 generalize w.setCell ⟨db, 0, none⟩ (.string ⟨#[]⟩) = w1 at *
 go_loopw [5] (fun i wr => ∃ (k : Nat) (m1 : Cm), k ≤ n ∧ i = .int .i64 k ∧ Dn7 W0 w1 db m0 wr (linesT s (ls.take k)).1 (linesT s (ls.take k)).2 m1 ∧ Hid ((linesT s (ls.take k)).2.length ≤ 60000 * k)) (fun i _ => n - (intOf i).toNat)
 case atStart => exact ⟨0, m0, by omega, rfl, ⟨(unhide HQ0).k, rfl, fun _ _ e => e, [], Chg.refl _ _, by simp⟩, hide (by simp [linesT])⟩
 case round =>
  obtain ⟨k, m1, hk, rfl, X, HTL⟩ := hrel
  have zd := X.k.lt
  by_cases hlt : k < n
  ·have hki : (k : Int) < (n : Int) := by omega
   have hk0 : (0 : Int) ≤ (k : Int) := by omega
   obtain ⟨l, hx⟩ : ∃ l, ls[k]? = some l := ⟨_, List.getElem?_eq_getElem (by rw [unhide HL]; exact hlt)⟩
   rcases (unhide HS0).next X with h0 | ⟨g, off, rfl, hg, ho, hne, hc⟩
   ·exfalso; have := unhide HL; rw [h0] at this; simp at this; omega
   have p0 := hc k l hx
   have hll := unhide HLL l (List.mem_of_getElem? hx)
   obtain ⟨s1, hs1⟩ : ∃ s1, s1 = (linesT s (ls.take k)).1 := ⟨_, rfl⟩
   obtain ⟨t1, ht1⟩ : ∃ t1, t1 = (linesT s (ls.take k)).2 := ⟨_, rfl⟩
   have HX := hide (show Dn7 W0 w1 db m0 wr s1 t1 m1 by rw [hs1, ht1]; exact X)
   have HT := hide (show linesT s (ls.take (k + 1)) = ((lineT s1 l).1, t1 ++ (lineT s1 l).2) by rw [hs1, ht1]; exact linesT_take hx)
   have HLG := hide ((unhide HX).k.long l)
   have HTL1 := hide (show t1.length ≤ 60000 * k by rw [ht1]; exact unhide HTL)
   clear hc hx X hs1 ht1 HTL ho hne
   go_wp2_with fail
   refine (line_any W0 db m1 s1 t1 l _ (unhide HX).k hll (by have := unhide HTL1; omega) (unhide HV)).mono ?_
   rintro e w4 ⟨rfl, m4, X4⟩
   have HX4 := hide ((unhide HX).trans X4)
   clear X4
   go_wp2
   go_roundw
   case rel => exact ⟨k + 1, m4, by omega, by go_num, by rw [unhide HT]; exact unhide HX4, hide (by rw [unhide HT]; have h1 := unhide HTL1; have h2 := unhide HLG; simp only [List.length_append]; omega)⟩
   case measure => go_light; simp [intOf]; omega
  ·have hki : ¬ (k : Int) < (n : Int) := by omega
   have HK := hide (show ls.take k = ls by rw [show k = ls.length by rw [unhide HL]; omega, List.take_length])
   have c9 : wr.cell? ⟨db, 0, none⟩ = some (.string (strA (linesT s (ls.take k)).2)) := Blk.cell X.k.d 0
   have HX := hide X
   clear X
   go_wp2
   go_ret
   have Y := (unhide HQ0).trans (unhide HX)
   rw [unhide HK] at Y ⊢
   exact ⟨rfl, _, Y⟩
end Go.Proofs.YtllnjiljjodfdacGreatDoor
