/-
  The first asking of every law of the jobs layer ('jobsBegun') answers true. Nothing here is claimed by itself.
-/
import Derived.Lib.QuietBelow
import Derived.BigQuiet
import Derived.Test.YtjoibdmppmpjgacMgW7
import Derived.Test.YtjoibdmppmpjgacMgSP
import Derived.Test.YtjoibdmppmpjgacMgR3
namespace Go.Proofs.Ytjoibdmppmpjgac
open Go.RowKit

/-! ### The six orders, and what they come to -/
def q1 : Od := ⟨1, 0, 2, 0, 0, 0⟩
def q2 : Od := ⟨2, 0, 0, 0, 1, 5⟩
def q3 : Od := ⟨2, 0, 0, 0, 2, 5⟩
def q4 : Od := ⟨2, 5, 0, 0, 2, 5⟩
def q5 : Od := ⟨4, 5, 2, 1, 1, 0⟩
def q6 : Od := ⟨4, 6, 2, 2, 2, 0⟩
def t1 : Tb := (doT T0 q1).1
def t2 : Tb := (doT t1 q2).1
def t3 : Tb := (doT t2 q3).1
def t4 : Tb := (doT t3 q4).1
def t5 : Tb := (doT t4 q5).1
def t6 : Tb := (doT t5 q6).1
theorem a1 : (doT T0 q1).2 = ⟨0, 0, 0⟩ := by kernel_rfl
theorem a2 : (doT t1 q2).2 = ⟨0, 2, 1⟩ := by kernel_rfl
theorem a3 : (doT t2 q3).2 = ⟨5, 0, 0⟩ := by kernel_rfl
theorem a4 : (doT t3 q4).2 = ⟨0, 2, 2⟩ := by kernel_rfl
theorem a5 : (doT t4 q5).2 = ⟨6, 0, 0⟩ := by kernel_rfl
theorem a6 : (doT t5 q6).2 = ⟨0, 0, 0⟩ := by kernel_rfl
theorem j6 : t6.js 2 = ⟨3, 2, 2, 0⟩ := by kernel_rfl
theorem n6 : t6.now = 6 := by kernel_rfl
theorem i1 : Inv t1 := inv_T0.step q1
theorem i2 : Inv t2 := i1.step q2
theorem i3 : Inv t3 := i2.step q3
theorem i4 : Inv t4 := i3.step q4
theorem i5 : Inv t5 := i4.step q5

theorem do1 (b : Nat) (w : World) (h : Has 93 w b T0) : Calls Try.prog 29 #[.pointer (some ⟨b, 0, none⟩), .agg #[.int .i64 1, .int .i64 0, .int .i64 2, .int .i64 0, .int .i64 0, .int .i64 0]] w fun e w' => e = .returned (.agg #[.int .i64 0, .int .i64 0, .int .i64 0]) ∧ Has 93 w' b t1 ∧ Chg [b] w w' := by
  have := do_any b q1 T0 w h inv_T0.fit
  rw [a1] at this
  exact this
theorem do2 (b : Nat) (w : World) (h : Has 93 w b t1) : Calls Try.prog 29 #[.pointer (some ⟨b, 0, none⟩), .agg #[.int .i64 2, .int .i64 0, .int .i64 0, .int .i64 0, .int .i64 1, .int .i64 5]] w fun e w' => e = .returned (.agg #[.int .i64 0, .int .i64 2, .int .i64 1]) ∧ Has 93 w' b t2 ∧ Chg [b] w w' := by
  have := do_any b q2 t1 w h i1.fit
  rw [a2] at this
  exact this
theorem do3 (b : Nat) (w : World) (h : Has 93 w b t2) : Calls Try.prog 29 #[.pointer (some ⟨b, 0, none⟩), .agg #[.int .i64 2, .int .i64 0, .int .i64 0, .int .i64 0, .int .i64 2, .int .i64 5]] w fun e w' => e = .returned (.agg #[.int .i64 5, .int .i64 0, .int .i64 0]) ∧ Has 93 w' b t3 ∧ Chg [b] w w' := by
  have := do_any b q3 t2 w h i2.fit
  rw [a3] at this
  exact this
theorem do4 (b : Nat) (w : World) (h : Has 93 w b t3) : Calls Try.prog 29 #[.pointer (some ⟨b, 0, none⟩), .agg #[.int .i64 2, .int .i64 5, .int .i64 0, .int .i64 0, .int .i64 2, .int .i64 5]] w fun e w' => e = .returned (.agg #[.int .i64 0, .int .i64 2, .int .i64 2]) ∧ Has 93 w' b t4 ∧ Chg [b] w w' := by
  have := do_any b q4 t3 w h i3.fit
  rw [a4] at this
  exact this
theorem do5 (b : Nat) (w : World) (h : Has 93 w b t4) : Calls Try.prog 29 #[.pointer (some ⟨b, 0, none⟩), .agg #[.int .i64 4, .int .i64 5, .int .i64 2, .int .i64 1, .int .i64 1, .int .i64 0]] w fun e w' => e = .returned (.agg #[.int .i64 6, .int .i64 0, .int .i64 0]) ∧ Has 93 w' b t5 ∧ Chg [b] w w' := by
  have := do_any b q5 t4 w h i4.fit
  rw [a5] at this
  exact this
theorem do6 (b : Nat) (w : World) (h : Has 93 w b t5) : Calls Try.prog 29 #[.pointer (some ⟨b, 0, none⟩), .agg #[.int .i64 4, .int .i64 6, .int .i64 2, .int .i64 2, .int .i64 2, .int .i64 0]] w fun e w' => e = .returned (.agg #[.int .i64 0, .int .i64 0, .int .i64 0]) ∧ Has 93 w' b t6 ∧ Chg [b] w w' := by
  have := do_any b q6 t5 w h i5.fit
  rw [a6] at this
  exact this
theorem jobs2 (b : Nat) (w : World) (h : Has 93 w b t6) : Calls Try.prog 25 #[.pointer (some ⟨b, 0, none⟩), .int .i64 2] w fun e w' => e = .returned (.agg #[.int .i64 3, .int .i64 2, .int .i64 2, .int .i64 0]) ∧ Chg [] w w' := by
  have := job_in b 2 (by omega) t6 w h
  rw [j6] at this
  exact this
theorem now6 (b : Nat) (w : World) (h : Has 93 w b t6) : Calls Try.prog 34 #[.pointer (some ⟨b, 0, none⟩)] w fun e w' => e = .returned (.int .i64 6) ∧ w' = w := by
  have := now_any b t6 w h
  rw [n6] at this
  exact this
theorem chk0 (w : World) : Calls Try.prog 46 #[.agg #[.int .i64 0, .int .i64 0, .int .i64 0, .int .i64 0, .int .i64 0, .int .i64 0]] w fun e w' => e = .returned (.int .i64 1) ∧ Chg [] w w' :=
  check_any ⟨0, 0, 0, 0, 0, 0⟩ w


end Go.Proofs.Ytjoibdmppmpjgac

namespace Go.Proofs.Ytjoibdmppmpjgac
open Go.RowKit Go.Sort

/-- The orders that came in. -/
def OrdAt (w : World) (bl off : Nat) (o : Od) : Prop :=
  w.cell? ⟨bl, off, none⟩ = some (.int .i64 o.k) ∧ w.cell? ⟨bl, off + 1, none⟩ = some (.int .i64 o.now) ∧ w.cell? ⟨bl, off + 2, none⟩ = some (.int .i64 o.jb) ∧
  w.cell? ⟨bl, off + 3, none⟩ = some (.int .i64 o.tr) ∧ w.cell? ⟨bl, off + 4, none⟩ = some (.int .i64 o.wk) ∧ w.cell? ⟨bl, off + 5, none⟩ = some (.int .i64 o.tm)
def Ords (w : World) (a : Option Addr) (len : Nat) (os : Nat → Od) : Prop :=
  len = 0 ∨ ∃ bl off, a = some ⟨bl, off, none⟩ ∧ bl < w.heap.size ∧ ∀ i, i < len → OrdAt w bl (off + i * 6) (os i)

theorem Chg.cellOf {bs : List Nat} {w w' : World} (h : Chg bs w w') {p : Addr} (hp : p.block < w.heap.size) (hb : p.block ∉ bs) : w'.cell? p = w.cell? p := World.cell?_of_block (w := w) (h.block p.block hp hb)
theorem OrdAt.chg {w w' : World} {bl off : Nat} {o : Od} (h : OrdAt w bl off o) {bs : List Nat} (k : Chg bs w w') (hl : bl < w.heap.size) (hb : bl ∉ bs) : OrdAt w' bl off o := by
  obtain ⟨h0, h1, h2, h3, h4, h5⟩ := h
  exact ⟨by rw [k.cellOf hl hb]; exact h0, by rw [k.cellOf hl hb]; exact h1, by rw [k.cellOf hl hb]; exact h2, by rw [k.cellOf hl hb]; exact h3, by rw [k.cellOf hl hb]; exact h4, by rw [k.cellOf hl hb]; exact h5⟩

/-! ### An array of six jobs -/
def cells24 (f : Nat → Jb) : Array Value :=
  #[.int .i64 (f 0).st, .int .i64 (f 0).wk, .int .i64 (f 0).tr, .int .i64 (f 0).un,
    .int .i64 (f 1).st, .int .i64 (f 1).wk, .int .i64 (f 1).tr, .int .i64 (f 1).un,
    .int .i64 (f 2).st, .int .i64 (f 2).wk, .int .i64 (f 2).tr, .int .i64 (f 2).un,
    .int .i64 (f 3).st, .int .i64 (f 3).wk, .int .i64 (f 3).tr, .int .i64 (f 3).un,
    .int .i64 (f 4).st, .int .i64 (f 4).wk, .int .i64 (f 4).tr, .int .i64 (f 4).un,
    .int .i64 (f 5).st, .int .i64 (f 5).wk, .int .i64 (f 5).tr, .int .i64 (f 5).un]
def Jobs6 (ty : TypeId) (w : World) (b : Nat) (f : Nat → Jb) : Prop := Blk w b (cells24 f) ty
def setJ (f : Nat → Jb) (n : Nat) (j : Jb) : Nat → Jb := fun m => if m = n then j else f m
section
variable {ty : TypeId} {w : World} {b : Nat} {f : Nat → Jb}
theorem Jobs6.c (h : Jobs6 ty w b f) {n : Nat} (hn : n < 6) :
    w.cell? ⟨b, n * 4, none⟩ = some (.int .i64 (f n).st) ∧ w.cell? ⟨b, n * 4 + 1, none⟩ = some (.int .i64 (f n).wk) ∧ w.cell? ⟨b, n * 4 + 2, none⟩ = some (.int .i64 (f n).tr) ∧ w.cell? ⟨b, n * 4 + 3, none⟩ = some (.int .i64 (f n).un) := by
  refine ⟨?_, ?_, ?_, ?_⟩ <;> rw [Blk.cell h] <;> rcases six hn with rfl | rfl | rfl | rfl | rfl | rfl <;> rfl
theorem Jobs6.set (h : Jobs6 ty w b f) {n : Nat} (hn : n < 6) (j : Jb) :
    Jobs6 ty ((((w.setCell ⟨b, n * 4, none⟩ (.int .i64 j.st)).setCell ⟨b, n * 4 + 1, none⟩ (.int .i64 j.wk)).setCell ⟨b, n * 4 + 2, none⟩ (.int .i64 j.tr)).setCell ⟨b, n * 4 + 3, none⟩ (.int .i64 j.un)) b (setJ f n j) := by
  have := Blk.set (Blk.set (Blk.set (Blk.set h (n * 4) (.int .i64 j.st)) (n * 4 + 1) (.int .i64 j.wk)) (n * 4 + 2) (.int .i64 j.tr)) (n * 4 + 3) (.int .i64 j.un)
  have e : ((((cells24 f).setIfInBounds (n * 4) (.int .i64 j.st)).setIfInBounds (n * 4 + 1) (.int .i64 j.wk)).setIfInBounds (n * 4 + 2) (.int .i64 j.tr)).setIfInBounds (n * 4 + 3) (.int .i64 j.un) = cells24 (setJ f n j) := by
    rcases six hn with rfl | rfl | rfl | rfl | rfl | rfl <;> rfl
  unfold Jobs6
  rw [← e]
  exact this
theorem Jobs6.new (ty : TypeId) (w : World) (f : Nat → Jb) : Jobs6 ty (w.alloc (.cells (cells24 f) ty)) w.heap.size f := Blk.new w _ ty
theorem Blk.drew {c : Array Value} (h : Blk w b c ty) : Blk w.drew b c ty := h
theorem Blk.drewN {c : Array Value} (h : Blk w b c ty) (n : Nat) : Blk (w.drewN n) b c ty := h
end

/-! ### An array of six numbers -/
def cells6 (f : Nat → Int) : Array Value := #[.int .i64 (f 0), .int .i64 (f 1), .int .i64 (f 2), .int .i64 (f 3), .int .i64 (f 4), .int .i64 (f 5)]
def Ints6 (ty : TypeId) (w : World) (b : Nat) (f : Nat → Int) : Prop := Blk w b (cells6 f) ty
def setI (f : Nat → Int) (n : Nat) (v : Int) : Nat → Int := fun m => if m = n then v else f m
theorem Ints6.c {ty : TypeId} {w : World} {b : Nat} {f : Nat → Int} (h : Ints6 ty w b f) {n : Nat} (hn : n < 6) : w.cell? ⟨b, n, none⟩ = some (.int .i64 (f n)) := by
  rw [Blk.cell h]; rcases six hn with rfl | rfl | rfl | rfl | rfl | rfl <;> rfl
theorem Ints6.set {ty : TypeId} {w : World} {b : Nat} {f : Nat → Int} (h : Ints6 ty w b f) {n : Nat} (hn : n < 6) (v : Int) : Ints6 ty (w.setCell ⟨b, n, none⟩ (.int .i64 v)) b (setI f n v) := by
  have := Blk.set h n (.int .i64 v)
  have e : (cells6 f).setIfInBounds n (.int .i64 v) = cells6 (setI f n v) := by rcases six hn with rfl | rfl | rfl | rfl | rfl | rfl <;> rfl
  unfold Ints6
  rw [← e]
  exact this

/-! ### In a statement whose order is open: what only reads, and makes memory of its own -/
theorem Chg.regrown (w : World) (d : Nat) (os : Array Obj) : Chg [] w (grow (redrawn w d) os) := Chg.ofBelow (below_regrown w d os) []
theorem job_quiet {b n : Nat} {T : Tb} {w : World} (h : Has 93 w b T) (hn : n < 6) : ∀ d os, Calls Try.prog 25 #[.pointer (some ⟨b, 0, none⟩), .int .i64 n] (grow (redrawn w d) os) fun e w'' =>
    e = .returned (.agg #[.int .i64 (T.js n).st, .int .i64 (T.js n).wk, .int .i64 (T.js n).tr, .int .i64 (T.js n).un]) ∧ ∃ p : Regrown, w'' = grow (redrawn w p.d) p.os := fun d os =>
  Calls.regrown_of ((job_in b n hn T _ (h.chg (Chg.regrown w d os) (by simp))).mono fun _ _ ⟨he, hc⟩ => ⟨he, hc.below⟩)
theorem now_quiet {b : Nat} {T : Tb} {w : World} (h : Has 93 w b T) : ∀ d os, Calls Try.prog 34 #[.pointer (some ⟨b, 0, none⟩)] (grow (redrawn w d) os) fun e w'' =>
    e = .returned (.int .i64 T.now) ∧ ∃ p : Regrown, w'' = grow (redrawn w p.d) p.os := fun d os =>
  Calls.regrown_of ((now_any b T _ (h.chg (Chg.regrown w d os) (by simp))).mono fun _ _ ⟨he, hc⟩ => ⟨he, by subst hc; exact Below.refl _ _⟩)
theorem field_job2 (a b c d : Value) (w : World) : (Instr.field 35 (.agg #[a, b, c, d]) 2).run Try.prog w = .ok c w := by kernel_rfl
theorem field_job (a b c d : Value) (w : World) : (Instr.field 35 (.agg #[a, b, c, d]) 0).run Try.prog w = .ok a w := by kernel_rfl

end Go.Proofs.Ytjoibdmppmpjgac

namespace Go.Proofs.Ytjoibdmppmpjgac
open Go.RowKit

theorem goodF_last : ∀ (rs : List Rc) (ep : Int) (k : Nat), goodF ep rs → k < rs.length → lastE ep (rs.take k) ≤ (atR rs k).ep
  | [], _, _, _, h => by simp at h
  | _ :: _, _, 0, ⟨_, h, _⟩, _ => h
  | _ :: rs, _, k + 1, ⟨_, _, h3⟩, hk => goodF_last rs _ k h3 (by simpa using hk)
theorem goodF_one {rs : List Rc} (h : goodF 0 rs) : goodF 1 rs := by
  cases rs with
  | nil => trivial
  | cons r t => exact ⟨h.1, (ckR_bd h.1).1.1, h.2.2⟩
theorem take_snocS (rs : List Rc) {k : Nat} (hk : k < rs.length) : rs.take (k + 1) = rs.take k ++ [atR rs k] := by
  rw [List.take_succ_eq_append_getElem hk]
  simp [atR, List.getD, List.getElem?_eq_getElem hk]
theorem atR_mem {rs : List Rc} {k : Nat} (hk : k < rs.length) : atR rs k ∈ rs := by
  have : atR rs k = rs[k] := by simp [atR, List.getD, List.getElem?_eq_getElem hk]
  rw [this]
  exact List.getElem_mem hk
theorem lastE_snocS (rs : List Rc) (ep : Int) (r : Rc) : lastE ep (rs ++ [r]) = r.ep := by
  induction rs generalizing ep with
  | nil => rfl
  | cons q t ih => exact ih q.ep
theorem once_at {rs : List Rc} (h : accR rs) (hg : goodF 1 rs) {k : Nat} (hk : k < rs.length) : ∃ (q : Nat) (e : Ev), q < 6 ∧ atE (evs rs) k = e ∧ evK e = q ∧ lastE 1 (rs.take k) ≤ e.r.ep ∧ lastE 1 (rs.take (k + 1)) = e.r.ep ∧ e.r ∈ rs ∧
    doneI ((behindT (rs.take k)).js q) = 0 ∧ addI ((behindT (rs.take (k + 1))).js q) = 1 ∧ addI ((behindT (rs.take (k + 1))).js q) = addI ((behindT (rs.take k)).js q) + (if e.r.o.k = 1 then 1 else 0) ∧ doneI ((behindT (rs.take (k + 1))).js q) = (if e.r.o.k = 4 then 1 else 0) ∧
      ∀ i, i < 6 → i ≠ q → addI ((behindT (rs.take (k + 1))).js i) = addI ((behindT (rs.take k)).js i) ∧ doneI ((behindT (rs.take (k + 1))).js i) = doneI ((behindT (rs.take k)).js i) := by
  have e1 := take_snocS rs hk
  have h1 := accR_take h (k + 1)
  rw [e1] at h1
  have hz := (accR_front h1).2
  obtain ⟨q, hq, c1, c2, c3, c4, c5, c6⟩ := once_step hz (r := atR rs k) rfl
  rw [e1, behindT_snoc]
  exact ⟨q, _, hq, atE_of (evs_at rs k hk), c1, goodF_last rs 1 k hg hk, lastE_snocS _ _ _, atR_mem hk, c2, c3, c4, c5, c6⟩
theorem Ints6.congr {ty : TypeId} {w : World} {b : Nat} {f g : Nat → Int} (h : Ints6 ty w b f) (e : ∀ i, i < 6 → f i = g i) : Ints6 ty w b g := by
  have : cells6 f = cells6 g := by unfold cells6; rw [e 0 (by omega), e 1 (by omega), e 2 (by omega), e 3 (by omega), e 4 (by omega), e 5 (by omega)]
  unfold Ints6 at h ⊢
  rw [← this]
  exact h
theorem Ints6.chg {ty : TypeId} {w w' : World} {b : Nat} {f : Nat → Int} (h : Ints6 ty w b f) {bs : List Nat} (k : Chg bs w w') (hb : b ∉ bs) : Ints6 ty w' b f := Blk.chg h k hb
theorem evK_take {e : Ev} {q : Nat} (h : evK e = q) (hk : e.r.o.k = 2) : e.a.jb = q := by unfold evK at h; rw [if_pos hk] at h; exact h
theorem evK_else {e : Ev} {q : Nat} (h : evK e = q) (hk : ¬ e.r.o.k = 2) : e.r.o.jb = q := by unfold evK at h; rw [if_neg hk] at h; exact h
/-- The two counts behind an event. -/
theorem once_add {T T' : Tb} {q : Nat} {k : Int} (ha1 : addI (T'.js q) = 1) (hoth : ∀ i, i < 6 → i ≠ q → addI (T'.js i) = addI (T.js i) ∧ doneI (T'.js i) = doneI (T.js i)) (hadd : addI (T'.js q) = addI (T.js q) + (if k = 1 then 1 else 0)) :
    (k = 1 → addI (T.js q) = 0 ∧ ∀ i, i < 6 → setI (fun i => addI (T.js i)) q 1 i = addI (T'.js i)) ∧ (¬ k = 1 → addI (T.js q) = 1 ∧ ∀ i, i < 6 → addI (T.js i) = addI (T'.js i)) := by
  refine ⟨fun hk => ?_, fun hk => ?_⟩
  · rw [if_pos hk] at hadd
    refine ⟨by omega, fun i hi => ?_⟩
    unfold setI
    split
    · rename_i e; subst e; exact ha1.symm
    · rename_i e; exact ((hoth i hi e).1).symm
  · rw [if_neg hk] at hadd
    refine ⟨by omega, fun i hi => ?_⟩
    by_cases e : i = q
    · subst e; omega
    · exact ((hoth i hi e).1).symm
theorem once_done {T T' : Tb} {q : Nat} {k : Int} (hd0 : doneI (T.js q) = 0) (hoth : ∀ i, i < 6 → i ≠ q → addI (T'.js i) = addI (T.js i) ∧ doneI (T'.js i) = doneI (T.js i)) (hdone : doneI (T'.js q) = (if k = 4 then 1 else 0)) :
    (k = 4 → ∀ i, i < 6 → setI (fun i => doneI (T.js i)) q 1 i = doneI (T'.js i)) ∧ (¬ k = 4 → ∀ i, i < 6 → doneI (T.js i) = doneI (T'.js i)) := by
  refine ⟨fun hk i hi => ?_, fun hk i hi => ?_⟩
  · rw [if_pos hk] at hdone
    unfold setI
    split
    · rename_i e; subst e; exact hdone.symm
    · rename_i e; exact ((hoth i hi e).2).symm
  · rw [if_neg hk] at hdone
    by_cases e : i = q
    · subst e; omega
    · exact ((hoth i hi e).2).symm

end Go.Proofs.Ytjoibdmppmpjgac

namespace Go.Proofs.Ytjoibdmppmpjgac
open Go.RowKit

set_option maxRecDepth 100000 in
set_option maxHeartbeats 2000000 in
theorem same_all (t b : Nat) (T : Tb) (w : World) (hT : Has 93 w t T) (hB : Has 82 w b T) :
    Calls Try.prog 12 #[.pointer (some ⟨t, 0, none⟩), .pointer (some ⟨b, 0, none⟩)] w fun e w' => e = .returned (.bool true) ∧ Chg [] w w' := by
  have lt := hT.lt
  have lb := hB.lt
  have bn := hB.cn
  have HT := hide hT
  have HB := hide hB
  clear hT hB
  go_enter Try.func12, Try.ntmps12
  go_wp2_with fail
  go_quiet ((go_at_call 34; exact Calls.quiet_of_same (now_any _ _ _ (unhide HT))))
  go_wp2_with fail
  go_loopw [5] (fun i wr => ∃ k : Nat, k ≤ 8 ∧ i = .int .i64 ((k : Int) - 1) ∧ Chg [] w wr) (fun i _ => 8 - (intOf i + 1).toNat)
  case atStart => exact ⟨0, by omega, rfl, (Chg.refl _ _).drewN _⟩
  case round =>
    obtain ⟨k, hk, rfl, G⟩ := hrel
    by_cases h8 : k < 8
    · have hle : decide ((k : Int) - 1 ≤ 6) = true := by simp; omega
      go_wp2_with (first
        | (go_at_call 25; refine (job_all t _ T _ ((unhide HT).chg G (by simp))).mono ?_; rintro e w2 ⟨rfl, g2⟩; have G2 := G.trans g2 (by simp); clear g2)
        | (go_at_call 32; refine (bjob_all b _ T _ ((unhide HB).chg G2 (by simp))).mono ?_; rintro e w3 ⟨rfl, g3⟩; have G3 := G2.trans g3 (by simp); clear g3))
      go_roundw
      case rel => exact ⟨k + 1, by omega, by go_num, G3⟩
      case measure => go_light; simp [intOf]; omega
    · have hle : decide ((k : Int) - 1 ≤ 6) = false := by simp; omega
      go_wp2
      go_ret
      exact ⟨rfl, G⟩

end Go.Proofs.Ytjoibdmppmpjgac

