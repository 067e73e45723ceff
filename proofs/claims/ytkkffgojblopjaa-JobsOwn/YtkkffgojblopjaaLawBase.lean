/-
  What the laws of the jobs layer share: the orders that came in, arrays of jobs and of numbers. Nothing here is claimed by itself.
-/
import Derived.Test.YtkkffgojblopjaaBegun
import Derived.Lib.QuietBelow
namespace Go.Proofs.Ytkkffgojblopjaa
open Go.RowKit Go.Sort

/-- The orders that came in. -/
def OrdAt (w : World) (bl off : Nat) (o : Od) : Prop :=
  w.cell? ⟨bl, off, none⟩ = some (.int .i64 o.k) ∧ w.cell? ⟨bl, off + 1, none⟩ = some (.int .i64 o.now) ∧ w.cell? ⟨bl, off + 2, none⟩ = some (.int .i64 o.jb) ∧
  w.cell? ⟨bl, off + 3, none⟩ = some (.int .i64 o.tr) ∧ w.cell? ⟨bl, off + 4, none⟩ = some (.int .i64 o.wk) ∧ w.cell? ⟨bl, off + 5, none⟩ = some (.int .i64 o.tm)
def Ords (w : World) (a : Option Addr) (len : Nat) (os : Nat → Od) : Prop :=
  len = 0 ∨ ∃ bl off, a = some ⟨bl, off, none⟩ ∧ bl < w.heap.size ∧ ∀ i, i < len → OrdAt w bl (off + i * 6) (os i)

theorem Chg.cellOf {bs : List Nat} {w w' : World} (h : Chg bs w w') {p : Addr} (hp : p.block < w.heap.size) (hb : p.block ∉ bs) : w'.cell? p = w.cell? p := World.cell?_of_block (w := w) (h.block p.block hp hb)
theorem OrdAt.chg {w w' : World} {bl off : Nat} {o : Od} (h : OrdAt w bl off o) {bs : List Nat} (k : Chg bs w w') (hl : bl < w.heap.size) (hb : bl ∉ bs) : OrdAt w' bl off o := by
  obtain ⟨h0, h1, h2, h3, h4, h5⟩ := h
  exact ⟨by rw [k.cellOf hl hb]; exact h0, by rw [k.cellOf hl hb]; exact h1, by rw [k.cellOf hl hb]; exact h2, by rw [k.cellOf hl hb]; exact h3, by rw [k.cellOf hl hb]; exact h4, by rw [k.cellOf hl hb]; exact h5⟩

/-! ### An array of six jobs -/
def cells24 (f : Nat → Jb) : Array Value :=
  #[.int .i64 (f 0).st, .int .i64 (f 0).wk, .int .i64 (f 0).tr, .int .i64 (f 0).un,
    .int .i64 (f 1).st, .int .i64 (f 1).wk, .int .i64 (f 1).tr, .int .i64 (f 1).un,
    .int .i64 (f 2).st, .int .i64 (f 2).wk, .int .i64 (f 2).tr, .int .i64 (f 2).un,
    .int .i64 (f 3).st, .int .i64 (f 3).wk, .int .i64 (f 3).tr, .int .i64 (f 3).un,
    .int .i64 (f 4).st, .int .i64 (f 4).wk, .int .i64 (f 4).tr, .int .i64 (f 4).un,
    .int .i64 (f 5).st, .int .i64 (f 5).wk, .int .i64 (f 5).tr, .int .i64 (f 5).un]
def Jobs6 (ty : TypeId) (w : World) (b : Nat) (f : Nat → Jb) : Prop := Blk w b (cells24 f) ty
def setJ (f : Nat → Jb) (n : Nat) (j : Jb) : Nat → Jb := fun m => if m = n then j else f m
section
variable {ty : TypeId} {w : World} {b : Nat} {f : Nat → Jb}
theorem Jobs6.c (h : Jobs6 ty w b f) {n : Nat} (hn : n < 6) :
    w.cell? ⟨b, n * 4, none⟩ = some (.int .i64 (f n).st) ∧ w.cell? ⟨b, n * 4 + 1, none⟩ = some (.int .i64 (f n).wk) ∧ w.cell? ⟨b, n * 4 + 2, none⟩ = some (.int .i64 (f n).tr) ∧ w.cell? ⟨b, n * 4 + 3, none⟩ = some (.int .i64 (f n).un) := by
  refine ⟨?_, ?_, ?_, ?_⟩ <;> rw [Blk.cell h] <;> rcases six hn with rfl | rfl | rfl | rfl | rfl | rfl <;> rfl
theorem Jobs6.set (h : Jobs6 ty w b f) {n : Nat} (hn : n < 6) (j : Jb) :
    Jobs6 ty ((((w.setCell ⟨b, n * 4, none⟩ (.int .i64 j.st)).setCell ⟨b, n * 4 + 1, none⟩ (.int .i64 j.wk)).setCell ⟨b, n * 4 + 2, none⟩ (.int .i64 j.tr)).setCell ⟨b, n * 4 + 3, none⟩ (.int .i64 j.un)) b (setJ f n j) := by
  have := Blk.set (Blk.set (Blk.set (Blk.set h (n * 4) (.int .i64 j.st)) (n * 4 + 1) (.int .i64 j.wk)) (n * 4 + 2) (.int .i64 j.tr)) (n * 4 + 3) (.int .i64 j.un)
  have e : ((((cells24 f).setIfInBounds (n * 4) (.int .i64 j.st)).setIfInBounds (n * 4 + 1) (.int .i64 j.wk)).setIfInBounds (n * 4 + 2) (.int .i64 j.tr)).setIfInBounds (n * 4 + 3) (.int .i64 j.un) = cells24 (setJ f n j) := by
    rcases six hn with rfl | rfl | rfl | rfl | rfl | rfl <;> rfl
  unfold Jobs6
  rw [← e]
  exact this
theorem Jobs6.new (ty : TypeId) (w : World) (f : Nat → Jb) : Jobs6 ty (w.alloc (.cells (cells24 f) ty)) w.heap.size f := Blk.new w _ ty
theorem Blk.drew {c : Array Value} (h : Blk w b c ty) : Blk w.drew b c ty := h
theorem Blk.drewN {c : Array Value} (h : Blk w b c ty) (n : Nat) : Blk (w.drewN n) b c ty := h
end

/-! ### An array of six numbers -/
def cells6 (f : Nat → Int) : Array Value := #[.int .i64 (f 0), .int .i64 (f 1), .int .i64 (f 2), .int .i64 (f 3), .int .i64 (f 4), .int .i64 (f 5)]
def Ints6 (ty : TypeId) (w : World) (b : Nat) (f : Nat → Int) : Prop := Blk w b (cells6 f) ty
def setI (f : Nat → Int) (n : Nat) (v : Int) : Nat → Int := fun m => if m = n then v else f m
theorem Ints6.c {ty : TypeId} {w : World} {b : Nat} {f : Nat → Int} (h : Ints6 ty w b f) {n : Nat} (hn : n < 6) : w.cell? ⟨b, n, none⟩ = some (.int .i64 (f n)) := by
  rw [Blk.cell h]; rcases six hn with rfl | rfl | rfl | rfl | rfl | rfl <;> rfl
theorem Ints6.set {ty : TypeId} {w : World} {b : Nat} {f : Nat → Int} (h : Ints6 ty w b f) {n : Nat} (hn : n < 6) (v : Int) : Ints6 ty (w.setCell ⟨b, n, none⟩ (.int .i64 v)) b (setI f n v) := by
  have := Blk.set h n (.int .i64 v)
  have e : (cells6 f).setIfInBounds n (.int .i64 v) = cells6 (setI f n v) := by rcases six hn with rfl | rfl | rfl | rfl | rfl | rfl <;> rfl
  unfold Ints6
  rw [← e]
  exact this

/-! ### In a statement whose order is open: what only reads, and makes memory of its own -/
theorem Chg.regrown (w : World) (d : Nat) (os : Array Obj) : Chg [] w (grow (redrawn w d) os) := Chg.ofBelow (below_regrown w d os) []
theorem job_quiet {b n : Nat} {T : Tb} {w : World} (h : Has 78 w b T) (hn : n < 6) : ∀ d os, Calls Try.prog 23 #[.pointer (some ⟨b, 0, none⟩), .int .i64 n] (grow (redrawn w d) os) fun e w'' =>
    e = .returned (.agg #[.int .i64 (T.js n).st, .int .i64 (T.js n).wk, .int .i64 (T.js n).tr, .int .i64 (T.js n).un]) ∧ ∃ p : Regrown, w'' = grow (redrawn w p.d) p.os := fun d os =>
  Calls.regrown_of ((job_in b n hn T _ (h.chg (Chg.regrown w d os) (by simp))).mono fun _ _ ⟨he, hc⟩ => ⟨he, hc.below⟩)
theorem now_quiet {b : Nat} {T : Tb} {w : World} (h : Has 78 w b T) : ∀ d os, Calls Try.prog 24 #[.pointer (some ⟨b, 0, none⟩)] (grow (redrawn w d) os) fun e w'' =>
    e = .returned (.int .i64 T.now) ∧ ∃ p : Regrown, w'' = grow (redrawn w p.d) p.os := fun d os =>
  Calls.regrown_of ((now_any b T _ (h.chg (Chg.regrown w d os) (by simp))).mono fun _ _ ⟨he, hc⟩ => ⟨he, by subst hc; exact Below.refl _ _⟩)
theorem field_job2 (a b c d : Value) (w : World) : (Instr.field 28 (.agg #[a, b, c, d]) 2).run Try.prog w = .ok c w := by kernel_rfl
theorem field_job (a b c d : Value) (w : World) : (Instr.field 28 (.agg #[a, b, c, d]) 0).run Try.prog w = .ok a w := by kernel_rfl

end Go.Proofs.Ytkkffgojblopjaa
