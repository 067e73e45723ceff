/-
 The document's desk with its chapter; what became of it. Nothing here is claimed by itself.
-/
import Derived.Test.YtllnjiljjodfdacGreatDoorQgE4
import Derived.Test.YtllnjiljjodfdacGreatDoorQG8
namespace Go.Proofs.YtllnjiljjodfdacGreatDoor
open Go.RowKit

structure Dk7 (W0 w : World) (db : Nat) (m : Cm) (s : Gd) (told : List UInt8) : Prop where
 d : Dsk7 w db m.cb told
 c : Chp W0 w m s
 o : m.own db = 100
 b : W0.heap.size ≤ db
structure Dn7 (W0 w : World) (db : Nat) (m : Cm) (w' : World) (s' : Gd) (told' : List UInt8) (m' : Cm) : Prop where
 k : Dk7 W0 w' db m' s' told'
 cb : m'.cb = m.cb
 ow : ∀ x, x < w.heap.size → m.own x = 100 → m'.own x = 100
 ch : ∃ bs, Chg bs w w' ∧ ∀ x ∈ bs, (m.own x ≠ 100 ∨ x = db) ∧ x < w.heap.size
section
variable {W0 w w' : World} {db : Nat} {m : Cm} {s : Gd} {told : List UInt8}
theorem Dk7.lt (h : Dk7 W0 w db m s told) : db < w.heap.size := Blk.lt h.d
theorem Dk7.fresh (h : Dk7 W0 w db m s told) (k : Chg [] w w') : Dk7 W0 w' db { m with own := grw w.heap.size m.own (fun _ => 100) } s told :=
 ⟨Blk.chg h.d k (by simp), h.c.fresh k, crw_as m _ h.lt h.o, h.b⟩
theorem Dk7.said (h : Dk7 W0 w db m s told) {told' : List UInt8} (d : Dsk7 w' db m.cb told') (k : Chg [db] w w') : Dk7 W0 w' db m s told' :=
 ⟨d, h.c.keep k (by intro x hx; simp at hx; subst hx; exact ⟨h.o, h.b⟩), h.o, h.b⟩
theorem Dk7.tells {w1 : World} (h : Dk7 W0 w db m s told) (k : Chg [] w w1) {told' : List UInt8} (d : Dsk7 w' db m.cb told') (g : Chg [db] w1 w') :
  Dn7 W0 w db m w' s told' { m with own := grw w.heap.size m.own (fun _ => 100) } :=
 ⟨(h.fresh k).said d g, rfl, (fun x hx e => crw_as m _ hx e), [db], (k.wide (by simp)).trans g (fun x hx => .inl hx), fun x hx => by simp at hx; subst hx; exact ⟨.inr rfl, h.lt⟩⟩
theorem Dk7.quiet (h : Dk7 W0 w db m s told) (k : Chg [] w w') : Dn7 W0 w db m w' s told { m with own := grw w.heap.size m.own (fun _ => 100) } :=
 ⟨h.fresh k, rfl, (fun x hx e => crw_as m _ hx e), [], k, by simp⟩
end
theorem mapM_snoc {l : List (List UInt8)} {ns : List Int} {x : List UInt8} {v : Int} (h : l.mapM numL = some ns) (hx : numL x = some v) : (l ++ [x]).mapM numL = some (ns ++ [v]) := by
 rw [List.mapM_append, h]
 simp [hx]
set_option maxRecDepth 100000 in
theorem is_any (t : ByteArray) (many : Int) (lb nb gs os n c : Nat) (av : Option Addr) (q cv : Nat) (w0 : List UInt8) (w : World) (hn : 0 < n) (cl : w.cell? ⟨lb, 0, none⟩ = some (.slice (some ⟨gs, os, none⟩) n c)) (c0 : w.cell? ⟨gs, os, none⟩ = some (.string (strA w0))) (cn : w.cell? ⟨nb, 0, none⟩ = some (.slice av q cv)) :
  Calls Tryz.prog 42 #[.string t, .int .i64 many, .pointer (some ⟨lb, 0, none⟩), .pointer (some ⟨nb, 0, none⟩)] w fun e w' => e = .returned (.bool ((w0 == t.toList) && ((q : Int) == many))) ∧ w' = w := by
 have n0' : (0 : Int) < (n : Int) := by omega
 by_cases hw : w0 = t.toList
 ·have b : ((strA w0).toList == t.toList) = true := by rw [strA_toL, hw]; simp
  have hr : ((w0 == t.toList) && ((q : Int) == many)) = ((q : Int) == many) := by rw [hw]; simp
  rw [hr]
  clear hw hr
  go_enter Tryz.func42, Tryz.ntmps42
  go_wp2
  go_ret
  exact ⟨rfl, rfl⟩
 ·have b : ((strA w0).toList == t.toList) = false := by rw [strA_toL]; exact beq_false_of_ne hw
  have hr : ((w0 == t.toList) && ((q : Int) == many)) = false := by rw [beq_false_of_ne hw]; rfl
  rw [hr]
  clear hw hr
  go_enter Tryz.func42, Tryz.ntmps42
  go_wp2
  go_ret
  exact ⟨rfl, rfl⟩
theorem is_at {b : Bool} {t : ByteArray} {many : Int} {lb nb gs os n c : Nat} {av : Option Addr} {q cv : Nat} {w0 : List UInt8} {w : World} (hb : Hid (((w0 == t.toList) && ((q : Int) == many)) = b)) (hn : 0 < n) (cl : w.cell? ⟨lb, 0, none⟩ = some (.slice (some ⟨gs, os, none⟩) n c)) (c0 : w.cell? ⟨gs, os, none⟩ = some (.string (strA w0))) (cn : w.cell? ⟨nb, 0, none⟩ = some (.slice av q cv)) :
  Calls Tryz.prog 42 #[.string t, .int .i64 many, .pointer (some ⟨lb, 0, none⟩), .pointer (some ⟨nb, 0, none⟩)] w fun e w' => e = .returned (.bool b) ∧ w' = w := by
 rw [← unhide hb]
 exact is_any t many lb nb gs os n c av q cv w0 w hn cl c0 cn
end Go.Proofs.YtllnjiljjodfdacGreatDoor
