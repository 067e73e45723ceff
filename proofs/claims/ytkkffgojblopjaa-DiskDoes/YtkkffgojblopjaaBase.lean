/-
  The plain mathematics of the jobs layer (a table of six jobs at a time, an order, an answer), and what it means that such a table lies in a block of memory. Nothing here is claimed by itself.
-/
import Derived.Test.YtkkffgojblopjaaRows
import Derived.WalkKit
import Derived.WalkSpells
import Derived.WalkLawsBesides
import Derived.Handy
import Derived.Deep.Draws
namespace Go.Proofs.Ytkkffgojblopjaa
open Go.RowKit

theorem hide {p : Prop} (h : p) : Hid p := h
theorem unhide {p : Prop} (h : Hid p) : p := h

structure Jb where
  st : Int
  wk : Int
  tr : Int
  un : Int

structure Tb where
  js : Nat → Jb
  now : Int

structure Od where
  k : Int
  now : Int
  jb : Int
  tr : Int
  wk : Int
  tm : Int

structure An where
  code : Int
  jb : Int
  tr : Int

theorem Jb.ext' {a b : Jb} (h1 : a.st = b.st) (h2 : a.wk = b.wk) (h3 : a.tr = b.tr) (h4 : a.un = b.un) : a = b := by
  cases a; cases b; simp_all

def Tb.set (T : Tb) (n : Nat) (j : Jb) : Tb := ⟨fun m => if m = n then j else T.js m, T.now⟩
theorem Tb.set_same (T : Tb) (n : Nat) (j : Jb) : (T.set n j).js n = j := by simp [Tb.set]
theorem Tb.set_other (T : Tb) (n m : Nat) (j : Jb) (h : m ≠ n) : (T.set n j).js m = T.js m := by simp [Tb.set, h]
theorem Tb.set_now (T : Tb) (n : Nat) (j : Jb) : (T.set n j).now = T.now := rfl
theorem Tb.set_self (T : Tb) (n : Nat) : T.set n (T.js n) = T := by
  cases T; simp only [Tb.set, Tb.mk.injEq, and_true]; funext m; split <;> simp_all

def T0 : Tb := ⟨fun _ => ⟨0, 0, 0, 0⟩, 0⟩

def Tb.cells (T : Tb) : Array Value :=
  #[.int .i64 (T.js 0).st, .int .i64 (T.js 0).wk, .int .i64 (T.js 0).tr, .int .i64 (T.js 0).un,
    .int .i64 (T.js 1).st, .int .i64 (T.js 1).wk, .int .i64 (T.js 1).tr, .int .i64 (T.js 1).un,
    .int .i64 (T.js 2).st, .int .i64 (T.js 2).wk, .int .i64 (T.js 2).tr, .int .i64 (T.js 2).un,
    .int .i64 (T.js 3).st, .int .i64 (T.js 3).wk, .int .i64 (T.js 3).tr, .int .i64 (T.js 3).un,
    .int .i64 (T.js 4).st, .int .i64 (T.js 4).wk, .int .i64 (T.js 4).tr, .int .i64 (T.js 4).un,
    .int .i64 (T.js 5).st, .int .i64 (T.js 5).wk, .int .i64 (T.js 5).tr, .int .i64 (T.js 5).un,
    .int .i64 T.now]

/-- The cells c lie in block b, whose type is t. -/
def Blk (w : World) (b : Nat) (c : Array Value) (t : TypeId) : Prop := w.heap[b]? = some (.cells c t)
theorem Blk.lt {w : World} {b : Nat} {c : Array Value} {t : TypeId} (h : Blk w b c t) : b < w.heap.size := (Array.getElem?_eq_some_iff.1 h).1
theorem Blk.cell {w : World} {b : Nat} {c : Array Value} {t : TypeId} (h : Blk w b c t) (o : Nat) : w.cell? ⟨b, o, none⟩ = c[o]? := by
  unfold Blk at h; simp [World.cell?, h]
theorem Blk.fz {w : World} {b : Nat} {c : Array Value} {t : TypeId} (h : Blk w b c t) (o : Nat) : w.frozen? ⟨b, o, none⟩ = false := by
  unfold Blk at h; simp [World.frozen?, h]
theorem Blk.new (w : World) (c : Array Value) (t : TypeId) : Blk (w.alloc (.cells c t)) w.heap.size c t := by
  show (w.heap.push _)[w.heap.size]? = _
  simp
theorem Blk.new1 (w : World) (o : Obj) (c : Array Value) (t : TypeId) : Blk ((w.alloc o).alloc (.cells c t)) (w.heap.size + 1) c t := by
  have := Blk.new (w.alloc o) c t
  simpa only [World.size_alloc] using this
theorem Blk.alloc {w : World} {b : Nat} {c : Array Value} {t : TypeId} (h : Blk w b c t) (o : Obj) : Blk (w.alloc o) b c t := by
  have hb := h.lt
  unfold Blk at h ⊢
  rw [Below.heap_alloc w o b hb]; exact h
theorem Blk.set {w : World} {b : Nat} {c : Array Value} {t : TypeId} (h : Blk w b c t) (o : Nat) (v : Value) : Blk (w.setCell ⟨b, o, none⟩ v) b (c.setIfInBounds o v) t := by
  unfold Blk at h ⊢; simp [World.setCell, Array.getElem?_modify, h]
theorem Blk.other {w : World} {b : Nat} {c : Array Value} {t : TypeId} (h : Blk w b c t) {p : Addr} (hp : p.block ≠ b) (v : Value) : Blk (w.setCell p v) b c t := by
  unfold Blk at h ⊢; rw [Below.heap_setCell w p v b (fun e => hp e.symm)]; exact h
theorem Blk.six {w : World} {b : Nat} {v0 v1 v2 v3 v4 v5 : Value} {t : TypeId} (h : Blk w b #[v0, v1, v2, v3, v4, v5] t) :
    w.cell? ⟨b, 0, none⟩ = some v0 ∧ w.cell? ⟨b, 1, none⟩ = some v1 ∧ w.cell? ⟨b, 2, none⟩ = some v2 ∧ w.cell? ⟨b, 3, none⟩ = some v3 ∧ w.cell? ⟨b, 4, none⟩ = some v4 ∧ w.cell? ⟨b, 5, none⟩ = some v5 :=
  ⟨h.cell 0, h.cell 1, h.cell 2, h.cell 3, h.cell 4, h.cell 5⟩
theorem Blk.four {w : World} {b : Nat} {v0 v1 v2 v3 : Value} {t : TypeId} (h : Blk w b #[v0, v1, v2, v3] t) :
    w.cell? ⟨b, 0, none⟩ = some v0 ∧ w.cell? ⟨b, 1, none⟩ = some v1 ∧ w.cell? ⟨b, 2, none⟩ = some v2 ∧ w.cell? ⟨b, 3, none⟩ = some v3 :=
  ⟨h.cell 0, h.cell 1, h.cell 2, h.cell 3⟩
theorem Blk.three {w : World} {b : Nat} {v0 v1 v2 : Value} {t : TypeId} (h : Blk w b #[v0, v1, v2] t) :
    w.cell? ⟨b, 0, none⟩ = some v0 ∧ w.cell? ⟨b, 1, none⟩ = some v1 ∧ w.cell? ⟨b, 2, none⟩ = some v2 ∧ w.frozen? ⟨b, 0, none⟩ = false ∧ w.frozen? ⟨b, 1, none⟩ = false ∧ w.frozen? ⟨b, 2, none⟩ = false :=
  ⟨h.cell 0, h.cell 1, h.cell 2, h.fz 0, h.fz 1, h.fz 2⟩

/-- The table T lies in block b, whose type is ty. -/
def Has (ty : TypeId) (w : World) (b : Nat) (T : Tb) : Prop := w.heap[b]? = some (.cells T.cells ty)

section
variable {ty : TypeId} {w : World} {b : Nat} {T : Tb}

theorem Has.lt (h : Has ty w b T) : b < w.heap.size := by
  unfold Has at h
  exact (Array.getElem?_eq_some_iff.1 h).1

theorem Has.cellAt (h : Has ty w b T) (o : Nat) : w.cell? ⟨b, o, none⟩ = T.cells[o]? := by
  unfold Has at h
  simp [World.cell?, h]

theorem Has.fz (h : Has ty w b T) (o : Nat) : w.frozen? ⟨b, o, none⟩ = false := by
  unfold Has at h
  simp [World.frozen?, h]

theorem six {n : Nat} (h : n < 6) : n = 0 ∨ n = 1 ∨ n = 2 ∨ n = 3 ∨ n = 4 ∨ n = 5 := by omega

theorem Has.c0 (h : Has ty w b T) {n : Nat} (hn : n < 6) : w.cell? ⟨b, n * 4, none⟩ = some (.int .i64 (T.js n).st) := by
  rw [h.cellAt]; rcases six hn with rfl | rfl | rfl | rfl | rfl | rfl <;> rfl
theorem Has.c1 (h : Has ty w b T) {n : Nat} (hn : n < 6) : w.cell? ⟨b, n * 4 + 1, none⟩ = some (.int .i64 (T.js n).wk) := by
  rw [h.cellAt]; rcases six hn with rfl | rfl | rfl | rfl | rfl | rfl <;> rfl
theorem Has.c2 (h : Has ty w b T) {n : Nat} (hn : n < 6) : w.cell? ⟨b, n * 4 + 2, none⟩ = some (.int .i64 (T.js n).tr) := by
  rw [h.cellAt]; rcases six hn with rfl | rfl | rfl | rfl | rfl | rfl <;> rfl
theorem Has.c3 (h : Has ty w b T) {n : Nat} (hn : n < 6) : w.cell? ⟨b, n * 4 + 3, none⟩ = some (.int .i64 (T.js n).un) := by
  rw [h.cellAt]; rcases six hn with rfl | rfl | rfl | rfl | rfl | rfl <;> rfl
theorem Has.cn (h : Has ty w b T) : w.cell? ⟨b, 24, none⟩ = some (.int .i64 T.now) := by
  rw [h.cellAt]; rfl

theorem Has.setCell (h : Has ty w b T) (o : Nat) (v : Value) (T' : Tb) (hT : T.cells.setIfInBounds o v = T'.cells) : Has ty (w.setCell ⟨b, o, none⟩ v) b T' := by
  unfold Has at h ⊢
  simp [World.setCell, Array.getElem?_modify, h, hT]

theorem set4 (T : Tb) {n : Nat} (hn : n < 6) (j : Jb) :
    (((T.cells.setIfInBounds (n * 4) (.int .i64 j.st)).setIfInBounds (n * 4 + 1) (.int .i64 j.wk)).setIfInBounds (n * 4 + 2) (.int .i64 j.tr)).setIfInBounds (n * 4 + 3) (.int .i64 j.un) = (T.set n j).cells := by
  rcases six hn with rfl | rfl | rfl | rfl | rfl | rfl <;> rfl

theorem Has.rawSet {c : Array Value} (h : w.heap[b]? = some (.cells c ty)) (o : Nat) (v : Value) : (w.setCell ⟨b, o, none⟩ v).heap[b]? = some (.cells (c.setIfInBounds o v) ty) := by
  simp [World.setCell, Array.getElem?_modify, h]

theorem Has.set4 (h : Has ty w b T) {n : Nat} (hn : n < 6) (j : Jb) :
    Has ty ((((w.setCell ⟨b, n * 4, none⟩ (.int .i64 j.st)).setCell ⟨b, n * 4 + 1, none⟩ (.int .i64 j.wk)).setCell ⟨b, n * 4 + 2, none⟩ (.int .i64 j.tr)).setCell ⟨b, n * 4 + 3, none⟩ (.int .i64 j.un)) b (T.set n j) := by
  have := Has.rawSet (Has.rawSet (Has.rawSet (Has.rawSet h (n * 4) (.int .i64 j.st)) (n * 4 + 1) (.int .i64 j.wk)) (n * 4 + 2) (.int .i64 j.tr)) (n * 4 + 3) (.int .i64 j.un)
  rw [Ytkkffgojblopjaa.set4 T hn j] at this
  exact this

theorem Has.setNow (h : Has ty w b T) (m : Int) : Has ty (w.setCell ⟨b, 24, none⟩ (.int .i64 m)) b ⟨T.js, m⟩ := Has.rawSet h 24 (.int .i64 m)

theorem Has.alloc (h : Has ty w b T) (o : Obj) : Has ty (w.alloc o) b T := by
  have hb := h.lt
  unfold Has at h ⊢
  rw [Below.heap_alloc w o b hb]; exact h

theorem Has.drew (h : Has ty w b T) : Has ty w.drew b T := h
theorem Has.drewN (h : Has ty w b T) (n : Nat) : Has ty (w.drewN n) b T := h

theorem Has.setOther (h : Has ty w b T) {p : Addr} (hp : p.block ≠ b) (v : Value) : Has ty (w.setCell p v) b T := by
  unfold Has at h ⊢
  rw [Below.heap_setCell w p v b (fun e => hp e.symm)]; exact h
end

/-- Of the blocks that there were only those of the list may be other; the streams are as they were. -/
structure Chg (bs : List Nat) (w w' : World) : Prop where
  os : w'.os = w.os
  tape : w'.tape = w.tape
  output : w'.output = w.output
  size : w.heap.size ≤ w'.heap.size
  block : ∀ k, k < w.heap.size → k ∉ bs → w'.heap[k]? = w.heap[k]?

theorem Chg.refl (bs : List Nat) (w : World) : Chg bs w w := ⟨rfl, rfl, rfl, Nat.le_refl _, fun _ _ _ => rfl⟩

theorem Chg.trans {bs cs : List Nat} {a b c : World} (h : Chg bs a b) (k : Chg cs b c) (hs : ∀ x, x ∈ cs → x ∈ bs ∨ a.heap.size ≤ x) : Chg bs a c :=
  ⟨k.os.trans h.os, k.tape.trans h.tape, k.output.trans h.output, Nat.le_trans h.size k.size, fun i hi hn => by
    rw [k.block i (Nat.lt_of_lt_of_le hi h.size) (fun hc => (hs i hc).elim hn (fun h1 => absurd hi (by omega)))]
    exact h.block i hi hn⟩

theorem Chg.alloc {bs : List Nat} {a w : World} (h : Chg bs a w) (o : Obj) : Chg bs a (w.alloc o) :=
  h.trans (cs := []) ⟨rfl, rfl, rfl, by simp, fun k hk _ => Below.heap_alloc _ _ _ hk⟩ (fun x hx => by simp at hx)

theorem Chg.drew {bs : List Nat} {a w : World} (h : Chg bs a w) : Chg bs a w.drew := ⟨h.os, h.tape, h.output, h.size, h.block⟩

theorem Chg.drewN {bs : List Nat} {a w : World} (h : Chg bs a w) (n : Nat) : Chg bs a (w.drewN n) :=
  ⟨h.os, h.tape, h.output, h.size, h.block⟩

theorem Chg.setCell {bs : List Nat} {a w : World} (h : Chg bs a w) {p : Addr} (hp : p.block ∈ bs ∨ a.heap.size ≤ p.block) (v : Value) : Chg bs a (w.setCell p v) :=
  h.trans (cs := [p.block]) ⟨rfl, rfl, rfl, by simp [World.setCell], fun k _ hn => Below.heap_setCell _ _ _ _ (by simpa using hn)⟩ (fun x hx => by simp at hx; subst hx; exact hp)

theorem Chg.below {w w' : World} (h : Chg [] w w') : Below w.heap.size w w' := ⟨h.os, h.tape, h.output, h.size, fun k hk => h.block k hk (by simp)⟩
theorem Chg.ofBelow {w w' : World} (h : Below w.heap.size w w') (bs : List Nat) : Chg bs w w' := ⟨h.os, h.tape, h.output, h.size, fun k hk _ => h.block k hk⟩

theorem Has.chg {ty : TypeId} {w w' : World} {b : Nat} {T : Tb} (h : Has ty w b T) {bs : List Nat} (k : Chg bs w w') (hb : b ∉ bs) : Has ty w' b T := by
  have := h.lt
  unfold Has at h ⊢
  rw [k.block b this hb]; exact h

theorem Blk.chg {w w' : World} {b : Nat} {c : Array Value} {t : TypeId} (h : Blk w b c t) {bs : List Nat} (k : Chg bs w w') (hb : b ∉ bs) : Blk w' b c t := by
  have := h.lt
  unfold Blk at h ⊢
  rw [k.block b this hb]; exact h

theorem set3 {W : World} {R : Nat} {a b c : Value} (r0 : W.cell? ⟨R, 0, none⟩ = some a) (r1 : W.cell? ⟨R, 1, none⟩ = some b) (r2 : W.cell? ⟨R, 2, none⟩ = some c) (x y z : Value) :
    (W.setCell ⟨R, 0, none⟩ x).cell? ⟨R, 0, none⟩ = some x ∧ ((W.setCell ⟨R, 0, none⟩ x).setCell ⟨R, 1, none⟩ y).cell? ⟨R, 1, none⟩ = some y ∧
    (((W.setCell ⟨R, 0, none⟩ x).setCell ⟨R, 1, none⟩ y).setCell ⟨R, 2, none⟩ z).cell? ⟨R, 2, none⟩ = some z := by
  refine ⟨World.cell?_setCell_same W _ _ r0, World.cell?_setCell_same _ _ _ (u := b) ?_, World.cell?_setCell_same _ _ _ (u := c) ?_⟩
  · rw [World.cell?_setCell_other _ _ _ _ (by simp)]; exact r1
  · rw [World.cell?_setCell_other _ _ _ _ (by simp), World.cell?_setCell_other _ _ _ _ (by simp)]; exact r2

/-! ### What the jobs layer does, as functions -/
def relJ (j : Jb) : Jb := ⟨if j.tr = 3 then 4 else 1, 0, j.tr, 0⟩
def ageJ (m : Int) (j : Jb) : Jb := if j.st = 2 ∧ j.un ≤ m then relJ j else j
def passTo (js : Nat → Jb) (m : Int) (k : Nat) : Tb := ⟨fun n => if n < k then ageJ m (js n) else js n, m⟩
def passT (T : Tb) (now : Int) : Tb := passTo T.js (max T.now now) 6

def hJob (k : Int) : Bool := k == 1 || k == 3 || k == 4 || k == 5
def hTry (k : Int) : Bool := k == 3 || k == 4 || k == 5
def hWrk (k : Int) : Bool := k == 2 || k == 3 || k == 4 || k == 5
def hTrm (k : Int) : Bool := k == 2 || k == 3
def formB (o : Od) (a b c d : Bool) : Bool := (a || o.jb == 0) && (b || o.tr == 0) && (c || o.wk == 0) && (d || o.tm == 0)
def inB (n lo hi : Int) : Bool := decide (lo ≤ n) && decide (n ≤ hi)
def rangeB (o : Od) (b d : Bool) : Bool := inB o.now 0 60000 && inB o.jb 0 5 && inB o.wk 0 3 && (!b || inB o.tr 1 3) && (!d || inB o.tm 1 20)
def knownB (k : Int) : Bool := inB k 1 5
def chk (o : Od) : Int :=
  if knownB o.k = false then 1 else if formB o (hJob o.k) (hTry o.k) (hWrk o.k) (hTrm o.k) = false then 2 else if rangeB o (hTry o.k) (hTrm o.k) = false then 3 else 0

def addT (T : Tb) (n : Nat) : Tb × An := if (T.js n).st = 0 then (T.set n ⟨1, 0, 0, 0⟩, ⟨0, 0, 0⟩) else (T, ⟨4, 0, 0⟩)
/-- The first of the jobs from k on that waits, of f jobs. -/
def firstW (T : Tb) : Nat → Nat → Option Nat
  | _, 0 => none
  | k, f + 1 => if (T.js k).st = 1 then some k else firstW T (k + 1) f
def takeT (T : Tb) (wk tm : Int) : Tb × An :=
  match firstW T 0 6 with
  | none => (T, ⟨5, 0, 0⟩)
  | some n => (T.set n ⟨2, wk, (T.js n).tr + 1, T.now + tm⟩, ⟨0, n, (T.js n).tr + 1⟩)
def heedJ (T : Tb) (o : Od) (j : Jb) : Jb :=
  if o.k = 3 then ⟨j.st, j.wk, j.tr, T.now + o.tm⟩ else if o.k = 4 then ⟨3, j.wk, j.tr, 0⟩ else if o.k = 5 then relJ j else j
def heedT (T : Tb) (o : Od) : Tb × An :=
  if (T.js o.jb.toNat).st = 0 then (T, ⟨5, 0, 0⟩)
  else if (T.js o.jb.toNat).st ≠ 2 ∨ (T.js o.jb.toNat).wk ≠ o.wk ∨ (T.js o.jb.toNat).tr ≠ o.tr then (T, ⟨6, 0, 0⟩)
  else (T.set o.jb.toNat (heedJ T o (T.js o.jb.toNat)), ⟨0, 0, 0⟩)
def obeyT (T : Tb) (o : Od) : Tb × An := if o.k = 1 then addT T o.jb.toNat else if o.k = 2 then takeT T o.wk o.tm else heedT T o
def doT (T : Tb) (o : Od) : Tb × An :=
  if chk o ≠ 0 then (T, ⟨chk o, 0, 0⟩)
  else if (obeyT (passT T o.now) o).2.code = 0 then obeyT (passT T o.now) o else (T, (obeyT (passT T o.now) o).2)

end Go.Proofs.Ytkkffgojblopjaa
