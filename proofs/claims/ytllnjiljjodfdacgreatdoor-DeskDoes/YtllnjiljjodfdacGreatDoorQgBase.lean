/-
 The plain mathematics of the jobs layer (a table of six jobs at a time, an order, an answer), and what it means that such a table lies in a block of memory. Nothing here is claimed by itself.
-/
import Derived.Test.YtllnjiljjodfdacGreatDoorRows
import Derived.WalkKit
import Derived.WalkSpells
import Derived.WalkLawsBesides
import Derived.Handy
import Derived.Deep.Draws
import Derived.Deep.RegionHeld3
import Derived.Conc.WalkWords
import Derived.Laws.OwnMore
import Derived.Laws.AppendOwnNone
import Derived.Laws.BytesArg
import Derived.Deep.Light
import Derived.Deep.MidRow
namespace Go.Proofs.YtllnjiljjodfdacGreatDoor
open Go.RowKit

theorem hide {p : Prop} (h : p) : Hid p := h
theorem unhide {p : Prop} (h : Hid p) : p := h
structure Jb where
 st : Int
 wk : Int
 tr : Int
 un : Int
structure Tb where
 js : Nat → Jb
 now : Int
structure Od where
 k : Int
 now : Int
 jb : Int
 tr : Int
 wk : Int
 tm : Int
structure An where
 code : Int
 jb : Int
 tr : Int
theorem Jb.ext' {a b : Jb} (h1 : a.st = b.st) (h2 : a.wk = b.wk) (h3 : a.tr = b.tr) (h4 : a.un = b.un) : a = b := by
 cases a; cases b; simp_all
def Tb.set (T : Tb) (n : Nat) (j : Jb) : Tb := ⟨fun m => if m = n then j else T.js m, T.now⟩
theorem Tb.set_same (T : Tb) (n : Nat) (j : Jb) : (T.set n j).js n = j := by simp [Tb.set]
theorem Tb.set_other (T : Tb) (n m : Nat) (j : Jb) (h : m ≠ n) : (T.set n j).js m = T.js m := by simp [Tb.set, h]
theorem Tb.set_now (T : Tb) (n : Nat) (j : Jb) : (T.set n j).now = T.now := rfl
def T0 : Tb := ⟨fun _ => ⟨0, 0, 0, 0⟩, 0⟩
def Tb.cells (T : Tb) : Array Value :=
 #[.int .i64 (T.js 0).st, .int .i64 (T.js 0).wk, .int .i64 (T.js 0).tr, .int .i64 (T.js 0).un,
  .int .i64 (T.js 1).st, .int .i64 (T.js 1).wk, .int .i64 (T.js 1).tr, .int .i64 (T.js 1).un,
  .int .i64 (T.js 2).st, .int .i64 (T.js 2).wk, .int .i64 (T.js 2).tr, .int .i64 (T.js 2).un,
  .int .i64 (T.js 3).st, .int .i64 (T.js 3).wk, .int .i64 (T.js 3).tr, .int .i64 (T.js 3).un,
  .int .i64 (T.js 4).st, .int .i64 (T.js 4).wk, .int .i64 (T.js 4).tr, .int .i64 (T.js 4).un,
  .int .i64 (T.js 5).st, .int .i64 (T.js 5).wk, .int .i64 (T.js 5).tr, .int .i64 (T.js 5).un,
  .int .i64 T.now]
def Blk (w : World) (b : Nat) (c : Array Value) (t : TypeId) : Prop := w.heap[b]? = some (.cells c t)
theorem Blk.lt {w : World} {b : Nat} {c : Array Value} {t : TypeId} (h : Blk w b c t) : b < w.heap.size := (Array.getElem?_eq_some_iff.1 h).1
theorem Blk.cell {w : World} {b : Nat} {c : Array Value} {t : TypeId} (h : Blk w b c t) (o : Nat) : w.cell? ⟨b, o, none⟩ = c[o]? := by
 unfold Blk at h; simp [World.cell?, h]
theorem Blk.fz {w : World} {b : Nat} {c : Array Value} {t : TypeId} (h : Blk w b c t) (o : Nat) : w.frozen? ⟨b, o, none⟩ = false := by
 unfold Blk at h; simp [World.frozen?, h]
theorem Blk.new (w : World) (c : Array Value) (t : TypeId) : Blk (w.alloc (.cells c t)) w.heap.size c t := by
 show (w.heap.push _)[w.heap.size]? = _
 simp
theorem Blk.new1 (w : World) (o : Obj) (c : Array Value) (t : TypeId) : Blk ((w.alloc o).alloc (.cells c t)) (w.heap.size + 1) c t := by
 have := Blk.new (w.alloc o) c t
 simpa only [World.size_alloc] using this
theorem Blk.alloc {w : World} {b : Nat} {c : Array Value} {t : TypeId} (h : Blk w b c t) (o : Obj) : Blk (w.alloc o) b c t := by
 have hb := h.lt
 unfold Blk at h ⊢
 rw [Below.heap_alloc w o b hb]; exact h
theorem Blk.set {w : World} {b : Nat} {c : Array Value} {t : TypeId} (h : Blk w b c t) (o : Nat) (v : Value) : Blk (w.setCell ⟨b, o, none⟩ v) b (c.setIfInBounds o v) t := by
 unfold Blk at h ⊢; simp [World.setCell, Array.getElem?_modify, h]
theorem Blk.other {w : World} {b : Nat} {c : Array Value} {t : TypeId} (h : Blk w b c t) {p : Addr} (hp : p.block ≠ b) (v : Value) : Blk (w.setCell p v) b c t := by
 unfold Blk at h ⊢; rw [Below.heap_setCell w p v b (fun e => hp e.symm)]; exact h
theorem Blk.six {w : World} {b : Nat} {v0 v1 v2 v3 v4 v5 : Value} {t : TypeId} (h : Blk w b #[v0, v1, v2, v3, v4, v5] t) :
  w.cell? ⟨b, 0, none⟩ = some v0 ∧ w.cell? ⟨b, 1, none⟩ = some v1 ∧ w.cell? ⟨b, 2, none⟩ = some v2 ∧ w.cell? ⟨b, 3, none⟩ = some v3 ∧ w.cell? ⟨b, 4, none⟩ = some v4 ∧ w.cell? ⟨b, 5, none⟩ = some v5 :=
 ⟨h.cell 0, h.cell 1, h.cell 2, h.cell 3, h.cell 4, h.cell 5⟩
theorem Blk.four {w : World} {b : Nat} {v0 v1 v2 v3 : Value} {t : TypeId} (h : Blk w b #[v0, v1, v2, v3] t) :
  w.cell? ⟨b, 0, none⟩ = some v0 ∧ w.cell? ⟨b, 1, none⟩ = some v1 ∧ w.cell? ⟨b, 2, none⟩ = some v2 ∧ w.cell? ⟨b, 3, none⟩ = some v3 :=
 ⟨h.cell 0, h.cell 1, h.cell 2, h.cell 3⟩
theorem Blk.three {w : World} {b : Nat} {v0 v1 v2 : Value} {t : TypeId} (h : Blk w b #[v0, v1, v2] t) :
  w.cell? ⟨b, 0, none⟩ = some v0 ∧ w.cell? ⟨b, 1, none⟩ = some v1 ∧ w.cell? ⟨b, 2, none⟩ = some v2 ∧ w.frozen? ⟨b, 0, none⟩ = false ∧ w.frozen? ⟨b, 1, none⟩ = false ∧ w.frozen? ⟨b, 2, none⟩ = false :=
 ⟨h.cell 0, h.cell 1, h.cell 2, h.fz 0, h.fz 1, h.fz 2⟩
def Has (ty : TypeId) (w : World) (b : Nat) (T : Tb) : Prop := w.heap[b]? = some (.cells T.cells ty)
section
variable {ty : TypeId} {w : World} {b : Nat} {T : Tb}
theorem Has.lt (h : Has ty w b T) : b < w.heap.size := by
 unfold Has at h
 exact (Array.getElem?_eq_some_iff.1 h).1
theorem Has.cellAt (h : Has ty w b T) (o : Nat) : w.cell? ⟨b, o, none⟩ = T.cells[o]? := by
 unfold Has at h
 simp [World.cell?, h]
theorem Has.fz (h : Has ty w b T) (o : Nat) : w.frozen? ⟨b, o, none⟩ = false := by
 unfold Has at h
 simp [World.frozen?, h]
theorem six {n : Nat} (h : n < 6) : n = 0 ∨ n = 1 ∨ n = 2 ∨ n = 3 ∨ n = 4 ∨ n = 5 := by omega
theorem Has.c0 (h : Has ty w b T) {n : Nat} (hn : n < 6) : w.cell? ⟨b, n * 4, none⟩ = some (.int .i64 (T.js n).st) := by
 rw [h.cellAt]; rcases six hn with rfl | rfl | rfl | rfl | rfl | rfl <;> rfl
theorem Has.c1 (h : Has ty w b T) {n : Nat} (hn : n < 6) : w.cell? ⟨b, n * 4 + 1, none⟩ = some (.int .i64 (T.js n).wk) := by
 rw [h.cellAt]; rcases six hn with rfl | rfl | rfl | rfl | rfl | rfl <;> rfl
theorem Has.c2 (h : Has ty w b T) {n : Nat} (hn : n < 6) : w.cell? ⟨b, n * 4 + 2, none⟩ = some (.int .i64 (T.js n).tr) := by
 rw [h.cellAt]; rcases six hn with rfl | rfl | rfl | rfl | rfl | rfl <;> rfl
theorem Has.c3 (h : Has ty w b T) {n : Nat} (hn : n < 6) : w.cell? ⟨b, n * 4 + 3, none⟩ = some (.int .i64 (T.js n).un) := by
 rw [h.cellAt]; rcases six hn with rfl | rfl | rfl | rfl | rfl | rfl <;> rfl
theorem Has.cn (h : Has ty w b T) : w.cell? ⟨b, 24, none⟩ = some (.int .i64 T.now) := by
 rw [h.cellAt]; rfl
theorem Has.setCell (h : Has ty w b T) (o : Nat) (v : Value) (T' : Tb) (hT : T.cells.setIfInBounds o v = T'.cells) : Has ty (w.setCell ⟨b, o, none⟩ v) b T' := by
 unfold Has at h ⊢
 simp [World.setCell, Array.getElem?_modify, h, hT]
theorem set4 (T : Tb) {n : Nat} (hn : n < 6) (j : Jb) :
  (((T.cells.setIfInBounds (n * 4) (.int .i64 j.st)).setIfInBounds (n * 4 + 1) (.int .i64 j.wk)).setIfInBounds (n * 4 + 2) (.int .i64 j.tr)).setIfInBounds (n * 4 + 3) (.int .i64 j.un) = (T.set n j).cells := by
 rcases six hn with rfl | rfl | rfl | rfl | rfl | rfl <;> rfl
theorem Has.rawSet {c : Array Value} (h : w.heap[b]? = some (.cells c ty)) (o : Nat) (v : Value) : (w.setCell ⟨b, o, none⟩ v).heap[b]? = some (.cells (c.setIfInBounds o v) ty) := by
 simp [World.setCell, Array.getElem?_modify, h]
theorem Has.set4 (h : Has ty w b T) {n : Nat} (hn : n < 6) (j : Jb) :
  Has ty ((((w.setCell ⟨b, n * 4, none⟩ (.int .i64 j.st)).setCell ⟨b, n * 4 + 1, none⟩ (.int .i64 j.wk)).setCell ⟨b, n * 4 + 2, none⟩ (.int .i64 j.tr)).setCell ⟨b, n * 4 + 3, none⟩ (.int .i64 j.un)) b (T.set n j) := by
 have := Has.rawSet (Has.rawSet (Has.rawSet (Has.rawSet h (n * 4) (.int .i64 j.st)) (n * 4 + 1) (.int .i64 j.wk)) (n * 4 + 2) (.int .i64 j.tr)) (n * 4 + 3) (.int .i64 j.un)
 rw [YtllnjiljjodfdacGreatDoor.set4 T hn j] at this
 exact this
theorem Has.setNow (h : Has ty w b T) (m : Int) : Has ty (w.setCell ⟨b, 24, none⟩ (.int .i64 m)) b ⟨T.js, m⟩ := Has.rawSet h 24 (.int .i64 m)
theorem Has.alloc (h : Has ty w b T) (o : Obj) : Has ty (w.alloc o) b T := by
 have hb := h.lt
 unfold Has at h ⊢
 rw [Below.heap_alloc w o b hb]; exact h
theorem Has.drew (h : Has ty w b T) : Has ty w.drew b T := h
theorem Has.drewN (h : Has ty w b T) (n : Nat) : Has ty (w.drewN n) b T := h
theorem Has.setOther (h : Has ty w b T) {p : Addr} (hp : p.block ≠ b) (v : Value) : Has ty (w.setCell p v) b T := by
 unfold Has at h ⊢
 rw [Below.heap_setCell w p v b (fun e => hp e.symm)]; exact h
end
structure Chg (bs : List Nat) (w w' : World) : Prop where
 os : w'.os = w.os
 tape : w'.tape = w.tape
 output : w'.output = w.output
 size : w.heap.size ≤ w'.heap.size
 block : ∀ k, k < w.heap.size → k ∉ bs → w'.heap[k]? = w.heap[k]?
theorem Chg.refl (bs : List Nat) (w : World) : Chg bs w w := ⟨rfl, rfl, rfl, Nat.le_refl _, fun _ _ _ => rfl⟩
theorem Chg.trans {bs cs : List Nat} {a b c : World} (h : Chg bs a b) (k : Chg cs b c) (hs : ∀ x, x ∈ cs → x ∈ bs ∨ a.heap.size ≤ x) : Chg bs a c :=
 ⟨k.os.trans h.os, k.tape.trans h.tape, k.output.trans h.output, Nat.le_trans h.size k.size, fun i hi hn => by
  rw [k.block i (Nat.lt_of_lt_of_le hi h.size) (fun hc => (hs i hc).elim hn (fun h1 => absurd hi (by omega)))]
  exact h.block i hi hn⟩
theorem Chg.alloc {bs : List Nat} {a w : World} (h : Chg bs a w) (o : Obj) : Chg bs a (w.alloc o) :=
 h.trans (cs := []) ⟨rfl, rfl, rfl, by simp, fun k hk _ => Below.heap_alloc _ _ _ hk⟩ (fun x hx => by simp at hx)
theorem Chg.drew {bs : List Nat} {a w : World} (h : Chg bs a w) : Chg bs a w.drew := ⟨h.os, h.tape, h.output, h.size, h.block⟩
theorem Chg.drewN {bs : List Nat} {a w : World} (h : Chg bs a w) (n : Nat) : Chg bs a (w.drewN n) :=
 ⟨h.os, h.tape, h.output, h.size, h.block⟩
theorem Chg.setCell {bs : List Nat} {a w : World} (h : Chg bs a w) {p : Addr} (hp : p.block ∈ bs ∨ a.heap.size ≤ p.block) (v : Value) : Chg bs a (w.setCell p v) :=
 h.trans (cs := [p.block]) ⟨rfl, rfl, rfl, by simp [World.setCell], fun k _ hn => Below.heap_setCell _ _ _ _ (by simpa using hn)⟩ (fun x hx => by simp at hx; subst hx; exact hp)
theorem Chg.below {w w' : World} (h : Chg [] w w') : Below w.heap.size w w' := ⟨h.os, h.tape, h.output, h.size, fun k hk => h.block k hk (by simp)⟩
theorem Chg.ofBelow {w w' : World} (h : Below w.heap.size w w') (bs : List Nat) : Chg bs w w' := ⟨h.os, h.tape, h.output, h.size, fun k hk _ => h.block k hk⟩
theorem Has.chg {ty : TypeId} {w w' : World} {b : Nat} {T : Tb} (h : Has ty w b T) {bs : List Nat} (k : Chg bs w w') (hb : b ∉ bs) : Has ty w' b T := by
 have := h.lt
 unfold Has at h ⊢
 rw [k.block b this hb]; exact h
theorem Blk.chg {w w' : World} {b : Nat} {c : Array Value} {t : TypeId} (h : Blk w b c t) {bs : List Nat} (k : Chg bs w w') (hb : b ∉ bs) : Blk w' b c t := by
 have := h.lt
 unfold Blk at h ⊢
 rw [k.block b this hb]; exact h
theorem set3 {W : World} {R : Nat} {a b c : Value} (r0 : W.cell? ⟨R, 0, none⟩ = some a) (r1 : W.cell? ⟨R, 1, none⟩ = some b) (r2 : W.cell? ⟨R, 2, none⟩ = some c) (x y z : Value) :
  (W.setCell ⟨R, 0, none⟩ x).cell? ⟨R, 0, none⟩ = some x ∧ ((W.setCell ⟨R, 0, none⟩ x).setCell ⟨R, 1, none⟩ y).cell? ⟨R, 1, none⟩ = some y ∧
  (((W.setCell ⟨R, 0, none⟩ x).setCell ⟨R, 1, none⟩ y).setCell ⟨R, 2, none⟩ z).cell? ⟨R, 2, none⟩ = some z := by
 refine ⟨World.cell?_setCell_same W _ _ r0, World.cell?_setCell_same _ _ _ (u := b) ?_, World.cell?_setCell_same _ _ _ (u := c) ?_⟩
 ·rw [World.cell?_setCell_other _ _ _ _ (by simp)]; exact r1
 ·rw [World.cell?_setCell_other _ _ _ _ (by simp), World.cell?_setCell_other _ _ _ _ (by simp)]; exact r2
def relJ (j : Jb) : Jb := ⟨if j.tr = 3 then 4 else 1, 0, j.tr, 0⟩
def ageJ (m : Int) (j : Jb) : Jb := if j.st = 2 ∧ j.un ≤ m then relJ j else j
def passTo (js : Nat → Jb) (m : Int) (k : Nat) : Tb := ⟨fun n => if n < k then ageJ m (js n) else js n, m⟩
def passT (T : Tb) (now : Int) : Tb := passTo T.js (max T.now now) 6
def hJob (k : Int) : Bool := k == 1 || k == 3 || k == 4 || k == 5
def hTry (k : Int) : Bool := k == 3 || k == 4 || k == 5
def hWrk (k : Int) : Bool := k == 2 || k == 3 || k == 4 || k == 5
def hTrm (k : Int) : Bool := k == 2 || k == 3
def formB (o : Od) (a b c d : Bool) : Bool := (a || o.jb == 0) && (b || o.tr == 0) && (c || o.wk == 0) && (d || o.tm == 0)
def inB (n lo hi : Int) : Bool := decide (lo ≤ n) && decide (n ≤ hi)
def rangeB (o : Od) (b d : Bool) : Bool := inB o.now 0 60000 && inB o.jb 0 5 && inB o.wk 0 3 && (!b || inB o.tr 1 3) && (!d || inB o.tm 1 20)
def knownB (k : Int) : Bool := inB k 1 5
def chk (o : Od) : Int :=
 if knownB o.k = false then 1 else if formB o (hJob o.k) (hTry o.k) (hWrk o.k) (hTrm o.k) = false then 2 else if rangeB o (hTry o.k) (hTrm o.k) = false then 3 else 0
def addT (T : Tb) (n : Nat) : Tb × An := if (T.js n).st = 0 then (T.set n ⟨1, 0, 0, 0⟩, ⟨0, 0, 0⟩) else (T, ⟨4, 0, 0⟩)
def firstW (T : Tb) : Nat → Nat → Option Nat
 | _, 0 => none
 | k, f + 1 => if (T.js k).st = 1 then some k else firstW T (k + 1) f
def takeT (T : Tb) (wk tm : Int) : Tb × An :=
 match firstW T 0 6 with
 | none => (T, ⟨5, 0, 0⟩)
 | some n => (T.set n ⟨2, wk, (T.js n).tr + 1, T.now + tm⟩, ⟨0, n, (T.js n).tr + 1⟩)
def heedJ (T : Tb) (o : Od) (j : Jb) : Jb :=
 if o.k = 3 then ⟨j.st, j.wk, j.tr, T.now + o.tm⟩ else if o.k = 4 then ⟨3, j.wk, j.tr, 0⟩ else if o.k = 5 then relJ j else j
def heedT (T : Tb) (o : Od) : Tb × An :=
 if (T.js o.jb.toNat).st = 0 then (T, ⟨5, 0, 0⟩)
 else if (T.js o.jb.toNat).st ≠ 2 ∨ (T.js o.jb.toNat).wk ≠ o.wk ∨ (T.js o.jb.toNat).tr ≠ o.tr then (T, ⟨6, 0, 0⟩)
 else (T.set o.jb.toNat (heedJ T o (T.js o.jb.toNat)), ⟨0, 0, 0⟩)
def obeyT (T : Tb) (o : Od) : Tb × An := if o.k = 1 then addT T o.jb.toNat else if o.k = 2 then takeT T o.wk o.tm else heedT T o
def doT (T : Tb) (o : Od) : Tb × An :=
 if chk o ≠ 0 then (T, ⟨chk o, 0, 0⟩)
 else if (obeyT (passT T o.now) o).2.code = 0 then obeyT (passT T o.now) o else (T, (obeyT (passT T o.now) o).2)
theorem tk {P : Program} {ops : Array Oper} {Q : Exit → Act → World → Prop} {S : World → Prop} {md : Region.Mode} (i : Nat) {oi : Oper} {v : Value} {fuel : Nat} {listed : Array Bool} {a : Act} {w : World} (hi : ops[i]? = some oi) (hS : S w)
  (h : wpAnyH P md ops Q S fuel (listed.setIfInBounds i true) (a.put oi.dst v) w)
  (hz : ∀ W', S W' → (execOp a.eval oi).run P W' = .ok (.value v) W' := by (intro W' hSw; (try dsimp only at hSw); (repeat (have _q := And.left hSw; replace hSw := And.right hSw)); go_simp; try with_reducible rfl))
  (hw : Region.wanted oi (yielded ops a.tmps) = true := by rfl)
  (hs : Region.noSelect ops = true := by kernel_rfl) (hf : Region.free md ops listed i = true := by kernel_rfl) (hr : (Region.ready md ops listed).contains i = true := by kernel_rfl)
  (hQ : ∀ c a w, Q (.panic c) (a.put oi.dst v) w → Q (.panic c) a w := by exact fun _ _ _ h => h) : wpAnyH P md ops Q S (fuel + 1) listed a w :=
 wpAnyH_take (i := i) (v := v) hi hs hf hr hQ (Or.inl ⟨hw, hz⟩) hS h
theorem tn {P : Program} {ops : Array Oper} {Q : Exit → Act → World → Prop} {S : World → Prop} {md : Region.Mode} (i : Nat) {oi : Oper} {fuel : Nat} {listed : Array Bool} {a : Act} {w : World} (hi : ops[i]? = some oi) (hS : S w)
  (h : wpAnyH P md ops Q S fuel (listed.setIfInBounds i true) (a.put oi.dst undef) w)
  (hw : Region.wanted oi (yielded ops a.tmps) = false := by rfl)
  (hs : Region.noSelect ops = true := by kernel_rfl) (hf : Region.free md ops listed i = true := by kernel_rfl) (hr : (Region.ready md ops listed).contains i = true := by kernel_rfl)
  (hQ : ∀ c a w, Q (.panic c) (a.put oi.dst undef) w → Q (.panic c) a w := by exact fun _ _ _ h => h) : wpAnyH P md ops Q S (fuel + 1) listed a w :=
 wpAnyH_take (i := i) (v := undef) hi hs hf hr hQ (Or.inr ⟨hw, rfl⟩) hS h
theorem rd {P : Program} {ops : Array Oper} {Q : Exit → Act → World → Prop} {S : World → Prop} {md : Region.Mode} (i : Nat) {o : Oper} {fuel : Nat} {listed : Array Bool} {a : Act} {w : World} (ho : ops[i]? = some o)
  (h : ∀ K' : Act → World → Prop, Shut (∀ a w, S w → (S w → wpAnyH P md ops Q S fuel (listed.setIfInBounds i true) a w) → K' a w) → Oper.wp P o a w K' Q)
  (hw : Region.wanted o (yielded ops a.tmps) = true := by rfl) (hr : Region.ready md ops listed = [i] := by kernel_rfl) : wpAnyH P md ops Q S (fuel + 1) listed a w :=
 wpAnyH_ready hr (by simp) (AllReadyH.cons ho (fun K' hK => by rw [if_pos hw]; exact h K' hK) AllReadyH.nil)
def U8 (l : List Int) : List Value := l.map (.int .u8)
theorem U8_len (l : List Int) : (U8 l).length = l.length := by simp [U8]
theorem U8_app (a b : List Int) : U8 (a ++ b) = U8 a ++ U8 b := by simp [U8]
theorem U8_take (n : Nat) (a : List Int) : U8 (a.take n) = (U8 a).take n := by simp [U8, List.map_take]
theorem U8_at {l : List Int} {i : Nat} {u : Value} (h : (U8 l)[i]? = some u) : ∃ x, l[i]? = some x ∧ u = .int .u8 x := by
 simp only [U8, List.getElem?_map, Option.map_eq_some_iff] at h
 obtain ⟨x, h1, h2⟩ := h
 exact ⟨x, h1, h2.symm⟩
theorem U8_one (l : List Int) : ∀ u ∈ U8 l, u.oneCell' = true := by
 intro u hu
 simp only [U8, List.mem_map] at hu
 obtain ⟨x, _, rfl⟩ := hu
 simp [Value.oneCell']
def okB (l : List Int) : Prop := ∀ x ∈ l, 0 ≤ x ∧ x < 256
theorem okB_nil : okB [] := fun _ h => by simp at h
theorem okB.app {a b : List Int} (h : okB a) (k : okB b) : okB (a ++ b) := fun x hx => (List.mem_append.1 hx).elim (h x) (k x)
theorem okB.take {a : List Int} (h : okB a) (n : Nat) : okB (a.take n) := fun x hx => h x (List.mem_of_mem_take hx)
def rsE (ep : Int) : Int := if 100 ≤ ep then ep else ep + 1
def rsA (ep : Int) : Int := if 100 ≤ ep then 0 else ep + 1
def rsC (ep : Int) : Int := if 100 ≤ ep then 8 else 0
theorem rs_full {ep : Int} (h : 100 ≤ ep) : rsE ep = ep ∧ rsA ep = 0 ∧ rsC ep = 8 := by simp [rsE, rsA, rsC, h]
theorem rs_more {ep : Int} (h : ¬ 100 ≤ ep) : rsE ep = ep + 1 ∧ rsA ep = ep + 1 ∧ rsC ep = 0 := by simp [rsE, rsA, rsC, h]
def fenB (ep e : Int) : Bool := decide (e < 1) || e != ep
def apC (ep : Int) (n m : Nat) (e : Int) : Int := if fenB ep e = true then 9 else if 1500 < n + m then 8 else 0
def apL (ep : Int) (l x : List Int) (e : Int) : List Int := if apC ep l.length x.length e = 0 then l ++ x else l
def ctC (ep : Int) (n : Nat) (e k : Int) : Int := if fenB ep e = true then 9 else if k < 0 ∨ (n : Int) < k then 3 else 0
def ctL (ep : Int) (l : List Int) (e k : Int) : List Int := if ctC ep l.length e k = 0 then l.take k.toNat else l
theorem ap_fen {ep e : Int} (h : fenB ep e = true) (l x : List Int) : apC ep l.length x.length e = 9 ∧ apL ep l x e = l := by
 have : apC ep l.length x.length e = 9 := by simp [apC, h]
 exact ⟨this, by simp [apL, this]⟩
theorem ap_full {ep e : Int} (h : fenB ep e = false) {l x : List Int} (hn : 1500 < l.length + x.length) : apC ep l.length x.length e = 8 ∧ apL ep l x e = l := by
 have : apC ep l.length x.length e = 8 := by simp [apC, h, hn]
 exact ⟨this, by simp [apL, this]⟩
theorem ap_yes {ep e : Int} (h : fenB ep e = false) {l x : List Int} (hn : ¬ 1500 < l.length + x.length) : apC ep l.length x.length e = 0 ∧ apL ep l x e = l ++ x := by
 have : apC ep l.length x.length e = 0 := by simp [apC, h, hn]
 exact ⟨this, by simp [apL, this]⟩
theorem ct_fen {ep e : Int} (h : fenB ep e = true) (l : List Int) (k : Int) : ctC ep l.length e k = 9 ∧ ctL ep l e k = l := by
 have : ctC ep l.length e k = 9 := by simp [ctC, h]
 exact ⟨this, by simp [ctL, this]⟩
theorem ct_range {ep e : Int} (h : fenB ep e = false) {l : List Int} {k : Int} (hk : k < 0 ∨ (l.length : Int) < k) : ctC ep l.length e k = 3 ∧ ctL ep l e k = l := by
 have : ctC ep l.length e k = 3 := by
  unfold ctC
  rw [if_neg (by simp [h]), if_pos hk]
 exact ⟨this, by simp [ctL, this]⟩
theorem ct_yes {ep e : Int} (h : fenB ep e = false) {l : List Int} {k : Int} (hk : ¬ (k < 0 ∨ (l.length : Int) < k)) : ctC ep l.length e k = 0 ∧ ctL ep l e k = l.take k.toNat := by
 have : ctC ep l.length e k = 0 := by
  unfold ctC
  rw [if_neg (by simp [h]), if_neg hk]
 exact ⟨this, by simp [ctL, this]⟩
def Sl (w : World) (v : Value) (l : List Int) : Prop :=
 (v = .slice none 0 0 ∧ l = []) ∨ ∃ (p : Addr) (c : Nat), v = .slice (some p) l.length c ∧ l.length ≤ c ∧ ∀ j u, l[j]? = some u → w.cell? (p.add j) = some (.int .u8 u)
theorem block_add (p : Addr) (j : Nat) : (p.add j).block = p.block := by unfold Addr.add; split <;> rfl
theorem Sl.chg {w w' : World} {v : Value} {l : List Int} (h : Sl w v l) {bs : List Nat} (k : Chg bs w w') (hb : ∀ x ∈ bs, v.ownBlock ≠ some x) : Sl w' v l := by
 rcases h with h | ⟨p, c, rfl, hc, h⟩
 ·exact .inl h
 ·refine .inr ⟨p, c, rfl, hc, fun j u hj => ?_⟩
  have h0 := h j u hj
  have hl := World.block_lt_of_cell? w _ h0
  have hk := k.block (p.add j).block hl (fun hx => hb _ hx (by rw [block_add]; rfl))
  rw [World.cell?_of_block (w := w) hk]
  exact h0
theorem Sl.take {w : World} {p : Addr} {n c : Nat} {l : List Int} (hn : l.length = n) (h : Sl w (.slice (some p) n c) l) {k : Nat} (hk : k ≤ l.length) (c' : Nat) (hc : k ≤ c') : Sl w (.slice (some p) k c') (l.take k) := by
 rcases h with ⟨h, _⟩ | ⟨p', c0, e, _, h⟩
 ·simp at h
 ·simp only [Value.slice.injEq, Option.some.injEq] at e
  obtain ⟨rfl, _, rfl⟩ := e
  refine .inr ⟨p, c', by rw [List.length_take, Nat.min_eq_left hk], by rw [List.length_take]; omega, fun j u hj => h j u ?_⟩
  by_cases hjk : j < k
  ·rwa [List.getElem?_take_of_lt hjk] at hj
  ·rw [List.getElem?_eq_none (by rw [List.length_take]; omega)] at hj
   cases hj
theorem own_sl {w : World} {base : Nat} {e : TypeId} {v : Value} {l : List Int} (h : w.ownsRow base e 1 v l.length (U8 l)) : Sl w v l := by
 have hcs := fun g hg => h.cells (g := g) hg
 obtain ⟨_, ⟨rfl, h0⟩ | ⟨g, c, cur, rfl, _, _, hc, _⟩⟩ := h
 ·exact .inl ⟨rfl, List.eq_nil_of_length_eq_zero h0⟩
 ·refine .inr ⟨_, c, rfl, hc, fun j u hj => ?_⟩
  exact hcs g rfl j _ (by simp [U8, hj])
theorem own_cut {w : World} {base : Nat} {e : TypeId} {g n c : Nat} {l : List Int} (h : w.ownsRow base e 1 (.slice (some ⟨g, 0, none⟩) n c) l.length (U8 l)) {k : Nat} (hk : k ≤ l.length) : w.ownsRow base e 1 (.slice (some ⟨g, 0, none⟩) k c) (l.take k).length (U8 (l.take k)) := by
 have e1 : (l.take k).length = k := by rw [List.length_take]; omega
 obtain ⟨_, ⟨h, _⟩ | ⟨g', c', cur, hv, hb, hg, hn, hm, hs, ht⟩⟩ := h
 ·cases h
 ·cases hv
  refine ⟨by rw [U8_len]; omega, .inr ⟨g, c, cur, by rw [e1], hb, hg, by omega, hm, hs, ?_⟩⟩
  rw [e1, U8_take, ← ht, List.take_take, Nat.min_eq_left (by omega)]
  congr 1
  omega
theorem own_form {w : World} {base : Nat} {e : TypeId} {v : Value} {l : List Int} (h : w.ownsRow base e 1 v l.length (U8 l)) : (v = .slice none 0 0 ∧ l = []) ∨ ∃ g c, v = .slice (some ⟨g, 0, none⟩) l.length c ∧ l.length ≤ c := by
 obtain ⟨_, ⟨h, h0⟩ | ⟨g, c, cur, hv, hb, hg, hn, hm, hs, ht⟩⟩ := h
 ·exact .inl ⟨h, List.eq_nil_of_length_eq_zero h0⟩
 ·exact .inr ⟨g, c, hv, hn⟩
theorem own_keep {w w' : World} {base : Nat} {e : TypeId} {size : Nat} {v : Value} {n : Nat} {xs : List Value} (h : w.ownsRow base e size v n xs) {bs : List Nat} (k : Chg bs w w') (hb : ∀ x ∈ bs, v.ownBlock ≠ some x) : w'.ownsRow base e size v n xs := by
 refine ⟨h.1, ?_⟩
 rcases h.2 with hn | ⟨g, cap, cur, rfl, h1, hgg, rest⟩
 ·exact .inl hn
 ·refine .inr ⟨g, cap, cur, rfl, h1, ?_, rest⟩
  rw [k.block g (Array.getElem?_eq_some_iff.1 hgg).1 (fun hx => hb g hx rfl)]
  exact hgg
theorem own_base {w : World} {base base' : Nat} {e : TypeId} {size : Nat} {v : Value} {n : Nat} {xs : List Value} (h : w.ownsRow base e size v n xs) (hb : base' ≤ base) : w.ownsRow base' e size v n xs :=
 ⟨h.1, h.2.imp id (fun ⟨g, cap, cur, h1, h2, h3⟩ => ⟨g, cap, cur, h1, Nat.le_trans hb h2, h3⟩)⟩
theorem Chg.grew {bs : List Nat} {a w w' : World} {row : Option Nat} (h : Chg bs a w) (hg : w.grownBy w' row) (hr : ∀ k, row = some k → k ∈ bs ∨ a.heap.size ≤ k) : Chg bs a w' :=
 ⟨hg.os.trans h.os, hg.tape.trans h.tape, hg.output.trans h.output, Nat.le_trans h.size hg.size, fun k hk hn => by
  rw [hg.block k (Nat.lt_of_lt_of_le hk h.size) (fun e => (hr k e.symm).elim hn (fun h1 => by omega))]
  exact h.block k hk hn⟩
theorem Chg.wide {bs cs : List Nat} {a w : World} (h : Chg bs a w) (hs : ∀ x ∈ bs, x ∈ cs) : Chg cs a w := ⟨h.os, h.tape, h.output, h.size, fun k hk hn => h.block k hk (fun hx => hn (hs k hx))⟩
structure Dsk (ty e8 : TypeId) (w : World) (base b : Nat) (ep : Int) (v : Value) (l : List Int) : Prop where
 blk : Blk w b #[.int .i64 ep, v] ty
 own : w.ownsRow base e8 1 v l.length (U8 l)
 few : l.length ≤ 1500
 ok : okB l
 ne : v.ownBlock ≠ some b
def fp (b : Nat) (v : Value) : List Nat := b :: v.ownBlock.toList
theorem mem_fp {x b : Nat} {v : Value} : x ∈ fp b v ↔ x = b ∨ v.ownBlock = some x := by
 unfold fp
 cases v.ownBlock <;> simp [eq_comm]
theorem Dsk.chg {ty e8 : TypeId} {w w' : World} {base b : Nat} {ep : Int} {v : Value} {l : List Int} (h : Dsk ty e8 w base b ep v l) {bs : List Nat} (k : Chg bs w w') (hb : ∀ x ∈ bs, x ∉ fp b v) : Dsk ty e8 w' base b ep v l :=
 ⟨h.blk.chg k (fun hx => hb b hx (mem_fp.2 (.inl rfl))), own_keep h.own k (fun x hx hv => hb x hx (mem_fp.2 (.inr hv))), h.few, h.ok, h.ne⟩
theorem Dsk.alloc {ty e8 : TypeId} {w : World} {base b : Nat} {ep : Int} {v : Value} {l : List Int} (h : Dsk ty e8 w base b ep v l) (o : Obj) : Dsk ty e8 (w.alloc o) base b ep v l :=
 h.chg ((Chg.refl [] w).alloc o) (by simp)
theorem Dsk.cells {ty e8 : TypeId} {w : World} {base b : Nat} {ep : Int} {v : Value} {l : List Int} (h : Dsk ty e8 w base b ep v l) : w.cell? ⟨b, 0, none⟩ = some (.int .i64 ep) ∧ w.cell? ⟨b, 1, none⟩ = some v ∧ b < w.heap.size ∧ w.frozen? ⟨b, 0, none⟩ = false ∧ w.frozen? ⟨b, 1, none⟩ = false :=
 ⟨h.blk.cell 0, h.blk.cell 1, h.blk.lt, h.blk.fz 0, h.blk.fz 1⟩
theorem Dsk.fp_lt {ty e8 : TypeId} {w : World} {base b : Nat} {ep : Int} {v : Value} {l : List Int} (h : Dsk ty e8 w base b ep v l) : ∀ x ∈ fp b v, x < w.heap.size := fun x hx => (mem_fp.1 hx).elim (fun e => e ▸ h.blk.lt) (fun e => (h.own.lt x e).2)
theorem Dsk.fp_ge {ty e8 : TypeId} {w : World} {base b : Nat} {ep : Int} {v : Value} {l : List Int} (h : Dsk ty e8 w base b ep v l) (hb : base ≤ b) : ∀ x ∈ fp b v, base ≤ x := fun x hx => (mem_fp.1 hx).elim (fun e => e ▸ hb) (fun e => (h.own.lt x e).1)
theorem tabInfo : (Tryz.prog.info? 151).map (·.size) = some 25 := by kernel_rfl
theorem tabRow : ∃ d, Tryz.prog.underlying 151 = some d ∧ d.isRow = true := ⟨_, Tryz.underlying151, rfl⟩
theorem brdInfo : (Tryz.prog.info? 103).map (·.size) = some 25 := by kernel_rfl
theorem brdRow : ∃ d, Tryz.prog.underlying 103 = some d ∧ d.isRow = true := ⟨_, Tryz.underlying103, rfl⟩
theorem Tb.size_cells (T : Tb) : T.cells.size = 25 := rfl
theorem Tb.one_cells (T : Tb) : T.cells.all (·.oneCell') = true := by simp [Tb.cells, Value.oneCell']
theorem wpList_load_tab {ops : Array Oper} {rest : List Oper} {op : Oper} {a : Act} {w : World} {Q : Exit → Act → World → Prop} (ty : TypeId) (hr : ∃ d, Tryz.prog.underlying ty = some d ∧ d.isRow = true) (hi : (Tryz.prog.info? ty).map (·.size) = some 25)
  (hgd : op.guard = none) (x : Operand) (ho : op.op = .load ty x) (b : Nat) (hx : a.eval x = .pointer (some ⟨b, 0, none⟩)) (ty' : TypeId) (T : Tb) (h : Has ty' w b T)
  (k : wpList Tryz.prog ops Q rest (a.put op.dst (.agg T.cells)) w) : wpList Tryz.prog ops Q (op :: rest) a w := by
 obtain ⟨d, hu, hd⟩ := hr
 have hc : w.rangeAt b 0 T.cells.toList := fun j v hv => by rw [Nat.zero_add, h.cellAt]; simpa using hv
 exact wpList_load_mid hgd ty x ho b 0 hx T.cells.toList d hc hu hd (by rw [hi]; rfl) (by simpa using k)
theorem setCells_raw (b : Nat) (ty : TypeId) : ∀ (vs : List Value) (o : Nat) (w : World) (c : Array Value), w.heap[b]? = some (.cells c ty) → ∃ c', (w.setCells b o vs).heap[b]? = some (.cells c' ty) ∧ c'.size = c.size ∧ ∀ i : Nat, c'[i]? = if o ≤ i ∧ i < o + vs.length ∧ i < c.size then vs[i - o]? else c[i]?
 | [], o, w, c, h => ⟨c, h, rfl, fun i => by simp; intro h1 h2; omega⟩
 | v :: r, o, w, c, h => by
  obtain ⟨c', h1, h2, h3⟩ := setCells_raw b ty r (o + 1) (w.setCell ⟨b, o, none⟩ v) _ (Has.rawSet h o v)
  refine ⟨c', h1, by simpa using h2, fun i => ?_⟩
  rw [h3 i]
  simp only [Array.size_setIfInBounds, List.length_cons, Array.getElem?_setIfInBounds]
  by_cases e1 : i = o
  ·subst e1
   by_cases e2 : i < c.size
   ·simp [e2]; omega
   ·simp [e2]
  ·by_cases e2 : o + 1 ≤ i ∧ i < o + 1 + r.length ∧ i < c.size
   ·rw [if_pos e2, if_pos (by omega)]
    rw [show i - o = (i - (o + 1)) + 1 by omega]
    simp
   ·rw [if_neg e2, if_neg (fun e => e1 e.symm), if_neg (by omega)]
theorem setCells_others (b : Nat) : ∀ (vs : List Value) (o : Nat) (w : World), (w.setCells b o vs).os = w.os ∧ (w.setCells b o vs).tape = w.tape ∧ (w.setCells b o vs).output = w.output ∧ (w.setCells b o vs).heap.size = w.heap.size ∧ ∀ k, k ≠ b → (w.setCells b o vs).heap[k]? = w.heap[k]?
 | [], _, _ => ⟨rfl, rfl, rfl, rfl, fun _ _ => rfl⟩
 | v :: r, o, w => by
  obtain ⟨h1, h2, h3, h4, h5⟩ := setCells_others b r (o + 1) (w.setCell ⟨b, o, none⟩ v)
  refine ⟨h1, h2, h3, by rw [World.setCells, h4]; simp [World.setCell], fun k hk => ?_⟩
  rw [World.setCells, h5 k hk, Below.heap_setCell _ _ _ _ hk]
theorem Has.setAll {ty : TypeId} {w : World} {b : Nat} {T : Tb} (h : Has ty w b T) (T' : Tb) : Has ty (w.setCells b 0 T'.cells.toList) b T' := by
 obtain ⟨c', h1, h2, h3⟩ := setCells_raw b ty T'.cells.toList 0 w T.cells h
 have : c' = T'.cells := by
  apply Array.ext_getElem?
  intro i
  rw [h3 i]
  by_cases hi : i < 25
  ·rw [if_pos ⟨Nat.zero_le _, by simpa [Tb.size_cells] using hi, by simpa [Tb.size_cells] using hi⟩]; simp
  ·rw [if_neg (by rw [Tb.size_cells]; omega), Array.getElem?_eq_none (by rw [Tb.size_cells]; omega), Array.getElem?_eq_none (by rw [Tb.size_cells]; omega)]
 subst this
 exact h1
theorem Chg.setAll {bs : List Nat} {a w : World} (h : Chg bs a w) {b : Nat} (hp : b ∈ bs ∨ a.heap.size ≤ b) (o : Nat) (vs : List Value) : Chg bs a (w.setCells b o vs) := by
 obtain ⟨h1, h2, h3, h4, h5⟩ := setCells_others b vs o w
 exact h.trans (cs := [b]) ⟨h1, h2, h3, by omega, fun k _ hn => h5 k (by simpa using hn)⟩ (fun x hx => by simp at hx; subst hx; exact hp)
theorem wpList_store_tab {ops : Array Oper} {rest : List Oper} {op : Oper} {a : Act} {w : World} {Q : Exit → Act → World → Prop} (ty : TypeId) (hi : (Tryz.prog.info? ty).map (·.size) = some 25)
  (hgd : op.guard = none) (x y : Operand) (ho : op.op = .store ty x y) (b : Nat) (hx : a.eval x = .pointer (some ⟨b, 0, none⟩)) (T' : Tb) (hy : a.eval y = .agg T'.cells) (ty' : TypeId) (T : Tb) (h : Has ty' w b T)
  (k : ∀ w', Has ty' w' b T' → Chg [b] w w' → w'.heap.size = w.heap.size → wpList Tryz.prog ops Q rest (a.put op.dst undef) w') : wpList Tryz.prog ops Q (op :: rest) a w := by
 refine wpList_store_mid hgd ty x y ho b 0 T'.cells hx hy (fun j hj => ⟨?_, ?_⟩) (by rw [hi]; rfl) T'.one_cells (k _ (h.setAll T') ((Chg.refl _ _).setAll (by simp) _ _) (setCells_others b _ 0 w).2.2.2.1)
 ·rw [Nat.zero_add, h.cellAt]; simpa [Tb.size_cells] using hj
 ·rw [h.fz]
end Go.Proofs.YtllnjiljjodfdacGreatDoor
namespace Go.Proofs.YtllnjiljjodfdacGreatDoor
theorem chk_zero {o : Od} (h : chk o = 0) : (1 ≤ o.k ∧ o.k ≤ 5) ∧ (0 ≤ o.now ∧ o.now ≤ 60000) ∧ (0 ≤ o.jb ∧ o.jb ≤ 5) ∧ (0 ≤ o.wk ∧ o.wk ≤ 3) ∧ (0 ≤ o.tr ∧ o.tr ≤ 3) ∧ (0 ≤ o.tm ∧ o.tm ≤ 20) ∧ ((o.k = 2 ∨ o.k = 3) → 1 ≤ o.tm) ∧ ((o.k = 3 ∨ o.k = 4 ∨ o.k = 5) → 1 ≤ o.tr) := by
 unfold chk at h
 by_cases h1 : knownB o.k = false
 ·rw [if_pos h1] at h; omega
 rw [if_neg h1] at h
 by_cases h2 : formB o (hJob o.k) (hTry o.k) (hWrk o.k) (hTrm o.k) = false
 ·rw [if_pos h2] at h; omega
 rw [if_neg h2] at h
 by_cases h3 : rangeB o (hTry o.k) (hTrm o.k) = false
 ·rw [if_pos h3] at h; omega
 simp only [Bool.not_eq_false] at h1 h2 h3
 have k1 : 1 ≤ o.k ∧ o.k ≤ 5 := by simpa [knownB, inB] using h1
 have hk : o.k = 1 ∨ o.k = 2 ∨ o.k = 3 ∨ o.k = 4 ∨ o.k = 5 := by omega
 clear h h1
 rcases hk with e | e | e | e | e <;> simp [e, formB, rangeB, inB, hJob, hTry, hWrk, hTrm] at h2 h3 <;> omega
def Fit (T : Tb) : Prop := (0 ≤ T.now ∧ T.now ≤ 60000) ∧ ∀ n, n < 6 → 0 ≤ (T.js n).tr ∧ (T.js n).tr ≤ 3
theorem ageJ_tr (m : Int) (j : Jb) : (ageJ m j).tr = j.tr := by unfold ageJ; split <;> rfl
theorem Fit.pass {T : Tb} (h : Fit T) {m : Int} (hm : m ≤ 60000) : Fit (passT T m) := by
 obtain ⟨h1, h2⟩ := h
 refine ⟨?_, fun n hn => ?_⟩
 ·show 0 ≤ max T.now m ∧ max T.now m ≤ 60000
  omega
 ·have : ((passT T m).js n).tr = (T.js n).tr := by simp [passT, passTo, hn, ageJ_tr]
  rw [this]; exact h2 n hn
def JInv (now : Int) (j : Jb) : Prop :=
 (j.st = 0 ∧ j.wk = 0 ∧ j.tr = 0 ∧ j.un = 0) ∨ (j.st = 1 ∧ j.wk = 0 ∧ 0 ≤ j.tr ∧ j.tr ≤ 2 ∧ j.un = 0) ∨
 (j.st = 2 ∧ 0 ≤ j.wk ∧ j.wk ≤ 3 ∧ 1 ≤ j.tr ∧ j.tr ≤ 3 ∧ now < j.un ∧ j.un ≤ now + 20) ∨
 (j.st = 3 ∧ 0 ≤ j.wk ∧ j.wk ≤ 3 ∧ 1 ≤ j.tr ∧ j.tr ≤ 3 ∧ j.un = 0) ∨ (j.st = 4 ∧ j.wk = 0 ∧ j.tr = 3 ∧ j.un = 0)
def Inv (T : Tb) : Prop := 0 ≤ T.now ∧ T.now ≤ 60000 ∧ ∀ n, n < 6 → JInv T.now (T.js n)
theorem Inv.fit {T : Tb} (h : Inv T) : Fit T := ⟨⟨h.1, h.2.1⟩, fun n hn => by have := h.2.2 n hn; unfold JInv at this; omega⟩
theorem inv_T0 : Inv T0 := ⟨by decide, by decide, fun n _ => .inl ⟨rfl, rfl, rfl, rfl⟩⟩
theorem jinv_age {now m : Int} {j : Jb} (h : JInv now j) (hm : now ≤ m) : JInv m (ageJ m j) := by
 unfold ageJ
 by_cases e : j.st = 2 ∧ j.un ≤ m
 ·rw [if_pos e]
  unfold JInv at h ⊢
  by_cases e3 : j.tr = 3
  ·simp [relJ, e3]
  ·simp [relJ, e3]; omega
 ·rw [if_neg e]
  unfold JInv at h ⊢
  rcases h with h | h | h | h | h
  ·exact .inl h
  ·exact .inr (.inl h)
  ·exact .inr (.inr (.inl (by omega)))
  ·exact .inr (.inr (.inr (.inl h)))
  ·exact .inr (.inr (.inr (.inr h)))
theorem passT_js (T : Tb) (m : Int) {n : Nat} (hn : n < 6) : (passT T m).js n = ageJ (max T.now m) (T.js n) := by simp [passT, passTo, hn]
theorem passT_now (T : Tb) (m : Int) : (passT T m).now = max T.now m := rfl
theorem Inv.pass {T : Tb} (h : Inv T) {m : Int} (hm : m ≤ 60000) : Inv (passT T m) := by
 obtain ⟨h1, h2, h3⟩ := h
 refine ⟨by rw [passT_now]; omega, by rw [passT_now]; omega, fun n hn => ?_⟩
 rw [passT_js T m hn, passT_now]
 exact jinv_age (h3 n hn) (by omega)
theorem Inv.set {T : Tb} (h : Inv T) {n : Nat} {j : Jb} (hj : JInv T.now j) : Inv (T.set n j) := by
 refine ⟨h.1, h.2.1, fun m hm => ?_⟩
 by_cases e : m = n
 ·subst e; rw [Tb.set_same]; exact hj
 ·rw [Tb.set_other _ _ _ _ e]; exact h.2.2 m hm
theorem firstW_spec (T : Tb) : ∀ (f k : Nat), (firstW T k f = none ∧ ∀ n, k ≤ n → n < k + f → (T.js n).st ≠ 1) ∨ ∃ n, firstW T k f = some n ∧ k ≤ n ∧ n < k + f ∧ (T.js n).st = 1 ∧ ∀ m, k ≤ m → m < n → (T.js m).st ≠ 1
 | 0, k => .inl ⟨rfl, fun n h1 h2 => by omega⟩
 | f + 1, k => by
  by_cases e : (T.js k).st = 1
  ·exact .inr ⟨k, by simp [firstW, e], by omega, by omega, e, fun m h1 h2 => by omega⟩
  ·rcases firstW_spec T f (k + 1) with ⟨h1, h2⟩ | ⟨n, h1, h2, h3, h4, h5⟩
   ·refine .inl ⟨by simp [firstW, e, h1], fun n g1 g2 => ?_⟩
    by_cases e2 : n = k
    ·subst e2; exact e
    ·exact h2 n (by omega) (by omega)
   ·refine .inr ⟨n, by simp [firstW, e, h1], by omega, by omega, h4, fun m g1 g2 => ?_⟩
    by_cases e2 : m = k
    ·subst e2; exact e
    ·exact h5 m (by omega) g2
def Stepped (o : Od) (m : Int) (n : Nat) (p q : Jb) (a : An) : Prop :=
 (o.k = 1 ∧ o.jb = n ∧ p.st = 0 ∧ q = ⟨1, 0, 0, 0⟩ ∧ a = ⟨0, 0, 0⟩) ∨
 (o.k = 2 ∧ p.st = 1 ∧ q = ⟨2, o.wk, p.tr + 1, m + o.tm⟩ ∧ a = ⟨0, n, p.tr + 1⟩) ∨
 (o.k = 3 ∧ o.jb = n ∧ p.st = 2 ∧ p.wk = o.wk ∧ p.tr = o.tr ∧ q = ⟨2, p.wk, p.tr, m + o.tm⟩ ∧ a = ⟨0, 0, 0⟩) ∨
 (o.k = 4 ∧ o.jb = n ∧ p.st = 2 ∧ p.wk = o.wk ∧ p.tr = o.tr ∧ q = ⟨3, p.wk, p.tr, 0⟩ ∧ a = ⟨0, 0, 0⟩) ∨
 (o.k = 5 ∧ o.jb = n ∧ p.st = 2 ∧ p.wk = o.wk ∧ p.tr = o.tr ∧ q = relJ p ∧ a = ⟨0, 0, 0⟩)
theorem do_step (T : Tb) (o : Od) :
  ((doT T o).2.code ≠ 0 ∧ (doT T o).2.jb = 0 ∧ (doT T o).2.tr = 0 ∧ (doT T o).1 = T) ∨
  ((doT T o).2.code = 0 ∧ chk o = 0 ∧ (doT T o).1.now = max T.now o.now ∧ ∃ n, n < 6 ∧ (∀ k, k < 6 → k ≠ n → (doT T o).1.js k = ageJ (max T.now o.now) (T.js k)) ∧
   (o.k = 2 → ∀ k, k < n → (ageJ (max T.now o.now) (T.js k)).st ≠ 1) ∧
   Stepped o (max T.now o.now) n (ageJ (max T.now o.now) (T.js n)) ((doT T o).1.js n) (doT T o).2) := by
 by_cases hc0 : chk o ≠ 0
 ·left
  have : doT T o = (T, ⟨chk o, 0, 0⟩) := by simp [doT, hc0]
  rw [this]; exact ⟨hc0, rfl, rfl, rfl⟩
 have hc : chk o = 0 := by omega
 clear hc0
 obtain ⟨k1, k2, k3, k4, k5, k6, k7, k8⟩ := chk_zero hc
 have hd : doT T o = if (obeyT (passT T o.now) o).2.code = 0 then obeyT (passT T o.now) o else (T, (obeyT (passT T o.now) o).2) := by simp [doT, hc]
 obtain ⟨n, hjn⟩ : ∃ n : Nat, o.jb = n := ⟨o.jb.toNat, by omega⟩
 have hn : n < 6 := by omega
 have hjt : o.jb.toNat = n := by omega
 have hjs := fun k (hk : k < 6) => passT_js T o.now hk
 by_cases e1 : o.k = 1
 ·have ho : obeyT (passT T o.now) o = addT (passT T o.now) n := by simp [obeyT, e1, hjt]
  by_cases es : ((passT T o.now).js n).st = 0
  ·have ha : addT (passT T o.now) n = ((passT T o.now).set n ⟨1, 0, 0, 0⟩, ⟨0, 0, 0⟩) := by simp [addT, es]
   rw [ho, ha, if_pos rfl] at hd
   rw [hd]
   right
   refine ⟨rfl, hc, rfl, n, hn, fun k hk hkn => ?_, fun h => by omega, .inl ⟨e1, hjn, by rw [← hjs n hn]; exact es, Tb.set_same _ _ _, rfl⟩⟩
   rw [Tb.set_other _ _ _ _ hkn, hjs k hk]
  ·have ha : addT (passT T o.now) n = (passT T o.now, ⟨4, 0, 0⟩) := by simp [addT, es]
   rw [ho, ha, if_neg (by simp)] at hd
   rw [hd]
   exact .inl ⟨by simp, rfl, rfl, rfl⟩
 by_cases e2 : o.k = 2
 ·have ho : obeyT (passT T o.now) o = takeT (passT T o.now) o.wk o.tm := by simp [obeyT, e2]
  rcases firstW_spec (passT T o.now) 6 0 with ⟨f1, f2⟩ | ⟨n, f1, f2, f3, f4, f5⟩
  ·have ha : takeT (passT T o.now) o.wk o.tm = (passT T o.now, ⟨5, 0, 0⟩) := by simp [takeT, f1]
   rw [ho, ha, if_neg (by simp)] at hd
   rw [hd]
   exact .inl ⟨by simp, rfl, rfl, rfl⟩
  ·have ha : takeT (passT T o.now) o.wk o.tm = ((passT T o.now).set n ⟨2, o.wk, ((passT T o.now).js n).tr + 1, (passT T o.now).now + o.tm⟩, ⟨0, n, ((passT T o.now).js n).tr + 1⟩) := by simp [takeT, f1]
   rw [ho, ha, if_pos rfl] at hd
   rw [hd]
   right
   have hn6 : n < 6 := by omega
   refine ⟨rfl, hc, rfl, n, hn6, fun k hk hkn => ?_, fun _ k hk => ?_, .inr (.inl ⟨e2, by rw [← hjs n hn6]; exact f4, ?_, ?_⟩)⟩
   ·rw [Tb.set_other _ _ _ _ hkn, hjs k hk]
   ·rw [← hjs k (by omega)]; exact f5 k (Nat.zero_le _) hk
   ·rw [Tb.set_same, hjs n hn6]; rfl
   ·rw [hjs n hn6]
 have ho : obeyT (passT T o.now) o = heedT (passT T o.now) o := by simp [obeyT, e1, e2]
 by_cases es : ((passT T o.now).js n).st = 0
 ·have ha : heedT (passT T o.now) o = (passT T o.now, ⟨5, 0, 0⟩) := by simp [heedT, hjt, es]
  rw [ho, ha, if_neg (by simp)] at hd
  rw [hd]
  exact .inl ⟨by simp, rfl, rfl, rfl⟩
 by_cases et : ((passT T o.now).js n).st ≠ 2 ∨ ((passT T o.now).js n).wk ≠ o.wk ∨ ((passT T o.now).js n).tr ≠ o.tr
 ·have ha : heedT (passT T o.now) o = (passT T o.now, ⟨6, 0, 0⟩) := by
   simp only [heedT, hjt]
   rw [if_neg es, if_pos et]
  rw [ho, ha, if_neg (by simp)] at hd
  rw [hd]
  exact .inl ⟨by simp, rfl, rfl, rfl⟩
 have ha : heedT (passT T o.now) o = ((passT T o.now).set n (heedJ (passT T o.now) o ((passT T o.now).js n)), ⟨0, 0, 0⟩) := by
  simp only [heedT, hjt]
  rw [if_neg es, if_neg et]
 have eu : ((passT T o.now).js n).st = 2 ∧ ((passT T o.now).js n).wk = o.wk ∧ ((passT T o.now).js n).tr = o.tr :=
  ⟨Decidable.byContradiction fun h => et (.inl h), Decidable.byContradiction fun h => et (.inr (.inl h)), Decidable.byContradiction fun h => et (.inr (.inr h))⟩
 rw [ho, ha, if_pos rfl] at hd
 rw [hd]
 right
 refine ⟨rfl, hc, rfl, n, hn, fun k hk hkn => by rw [Tb.set_other _ _ _ _ hkn, hjs k hk], fun h => by omega, ?_⟩
 simp only [Tb.set_same]
 rw [hjs n hn] at eu ⊢
 have ek : o.k = 3 ∨ o.k = 4 ∨ o.k = 5 := by omega
 rcases ek with e | e | e
 ·refine .inr (.inr (.inl ⟨e, hjn, eu.1, eu.2.1, eu.2.2, ?_, rfl⟩))
  simp [heedJ, e, eu.1, passT_now]
 ·refine .inr (.inr (.inr (.inl ⟨e, hjn, eu.1, eu.2.1, eu.2.2, ?_, rfl⟩)))
  simp [heedJ, e]
 ·refine .inr (.inr (.inr (.inr ⟨e, hjn, eu.1, eu.2.1, eu.2.2, ?_, rfl⟩)))
  simp [heedJ, e]
theorem Inv.step {T : Tb} (h : Inv T) (o : Od) : Inv (doT T o).1 := by
 rcases do_step T o with ⟨_, _, _, e⟩ | ⟨hz, hc, hnow, n, hn, hoth, _, hst⟩
 ·rw [e]; exact h
 obtain ⟨k1, k2, k3, k4, k5, k6, k7, k8⟩ := chk_zero hc
 obtain ⟨h1, h2, h3⟩ := h
 refine ⟨by rw [hnow]; omega, by rw [hnow]; omega, fun k hk => ?_⟩
 rw [hnow]
 by_cases e : k = n
 ·subst e
  have hp := jinv_age (h3 k hk) (show T.now ≤ max T.now o.now by omega)
  generalize ageJ (max T.now o.now) (T.js k) = p at *
  generalize (doT T o).1.js k = q at *
  unfold JInv at hp ⊢
  rcases hst with ⟨a1, a2, a3, a4, a5⟩ | ⟨a1, a2, a3, a4⟩ | ⟨a1, a2, a3, a4, a5, a6, a7⟩ | ⟨a1, a2, a3, a4, a5, a6, a7⟩ | ⟨a1, a2, a3, a4, a5, a6, a7⟩
  ·subst a4; simp
  ·subst a3; refine .inr (.inr (.inl ⟨rfl, ?_, ?_, ?_, ?_, ?_, ?_⟩)) <;> (simp only; omega)
  ·subst a6; refine .inr (.inr (.inl ⟨rfl, ?_, ?_, ?_, ?_, ?_, ?_⟩)) <;> (simp only; omega)
  ·subst a6; refine .inr (.inr (.inr (.inl ⟨rfl, ?_, ?_, ?_, ?_, rfl⟩))) <;> (simp only; omega)
  ·subst a6; by_cases e3 : p.tr = 3
   ·simp [relJ, e3]
   ·simp [relJ, e3]; omega
 ·rw [hoth k hk e]
  exact jinv_age (h3 k hk) (by omega)
end Go.Proofs.YtllnjiljjodfdacGreatDoor
