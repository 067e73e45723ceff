/-
  Results that lie in memory: a whole table, a table and an answer. Nothing here is claimed by itself.
-/
import Derived.Test.YtkkffgojblopjaaW8
import Derived.Deep.MidRow
namespace Go.Proofs.Ytkkffgojblopjaa
open Go.RowKit

theorem Has.set5 {ty : TypeId} {w : World} {b : Nat} {T : Tb} (h : Has ty w b T) {n : Nat} (hn : n < 6) (j : Jb) (s : Int) :
    Has ty (((((w.setCell ⟨b, n * 4, none⟩ (.int .i64 j.st)).setCell ⟨b, n * 4 + 1, none⟩ (.int .i64 j.wk)).setCell ⟨b, n * 4 + 2, none⟩ (.int .i64 j.tr)).setCell ⟨b, n * 4 + 3, none⟩ (.int .i64 j.un)).setCell ⟨b, n * 4, none⟩ (.int .i64 s)) b (T.set n ⟨s, j.wk, j.tr, j.un⟩) := by
  have := Has.rawSet (h.set4 hn j) (n * 4) (.int .i64 s)
  have e : ((T.set n j).cells).setIfInBounds (n * 4) (.int .i64 s) = (T.set n ⟨s, j.wk, j.tr, j.un⟩).cells := by
    rcases six hn with rfl | rfl | rfl | rfl | rfl | rfl <;> rfl
  rw [e] at this
  exact this
theorem Has.setUn {ty : TypeId} {w : World} {b : Nat} {T : Tb} (h : Has ty w b T) {n : Nat} (hn : n < 6) (u : Int) :
    Has ty (w.setCell ⟨b, n * 4 + 3, none⟩ (.int .i64 u)) b (T.set n ⟨(T.js n).st, (T.js n).wk, (T.js n).tr, u⟩) := by
  have := Has.rawSet h (n * 4 + 3) (.int .i64 u)
  have e : (T.cells).setIfInBounds (n * 4 + 3) (.int .i64 u) = (T.set n ⟨(T.js n).st, (T.js n).wk, (T.js n).tr, u⟩).cells := by
    rcases six hn with rfl | rfl | rfl | rfl | rfl | rfl <;> rfl
  rw [e] at this
  exact this

theorem load_tab {ty : TypeId} (hr : ∃ d, Try.prog.underlying ty = some d ∧ d.isRow = true) (hi : (Try.prog.info? ty).map (·.size) = some 25) {w : World} {b : Nat} {ty' : TypeId} {T : Tb} (h : Has ty' w b T) :
    (loadVar ty ⟨b, 0, none⟩).run Try.prog w = .ok (.agg T.cells) w := by
  obtain ⟨d, hu, hd⟩ := hr
  have hc : w.rangeAt b 0 T.cells.toList := fun j v hv => by rw [Nat.zero_add, h.cellAt]; simpa using hv
  have := run_loadVar_mid (P := Try.prog) w b 0 ty T.cells.toList d hc hu hd (by rw [hi]; rfl)
  simpa using this
theorem ansInfo : (Try.prog.info? 33).map (·.size) = some 3 := by kernel_rfl
theorem ansRow : ∃ d, Try.prog.underlying 33 = some d ∧ d.isRow = true := ⟨_, Try.underlying33, rfl⟩
theorem load_ans {w : World} {b : Nat} {ty' : TypeId} {x y z : Value} (h : Blk w b #[x, y, z] ty') : (loadVar 33 ⟨b, 0, none⟩).run Try.prog w = .ok (.agg #[x, y, z]) w := by
  obtain ⟨d, hu, hd⟩ := ansRow
  have hc : w.rangeAt b 0 [x, y, z] := fun j v hv => by rw [Nat.zero_add, h.cell]; simpa using hv
  exact run_loadVar_mid (P := Try.prog) w b 0 33 [x, y, z] d hc hu hd (by rw [ansInfo]; rfl)

theorem ret_tab {fn : Func} {p : Tmp} {ty : TypeId} (h : fn.results = #[.cell p ty]) (hr : ∃ d, Try.prog.underlying ty = some d ∧ d.isRow = true) (hi : (Try.prog.info? ty).map (·.size) = some 25) {tmps : Array Value} {w : World} {b : Nat}
    (hp : tmps.getD p undef = .pointer (some ⟨b, 0, none⟩)) {ty' : TypeId} {T : Tb} (hT : Has ty' w b T) : (results fn tmps).run Try.prog w = .ok (.agg T.cells) w := by
  have hl := load_tab hr hi hT
  have hp' : tmps[p]?.getD undef = .pointer (some ⟨b, 0, none⟩) := by simpa using hp
  simp only [results, h]
  simp [hp', asAddr, hl]
theorem ret_tab_ans {fn : Func} {p q : Tmp} {ty : TypeId} (h : fn.results = #[.cell p ty, .cell q 33]) (hr : ∃ d, Try.prog.underlying ty = some d ∧ d.isRow = true) (hi : (Try.prog.info? ty).map (·.size) = some 25) {tmps : Array Value} {w : World} {b c : Nat}
    (hp : tmps.getD p undef = .pointer (some ⟨b, 0, none⟩)) (hq : tmps.getD q undef = .pointer (some ⟨c, 0, none⟩)) {ty' ty'' : TypeId} {T : Tb} (hT : Has ty' w b T) {x y z : Value} (hA : Blk w c #[x, y, z] ty'') :
    (results fn tmps).run Try.prog w = .ok (.tuple #[.agg T.cells, .agg #[x, y, z]]) w := by
  have hl := load_tab hr hi hT
  have ha := load_ans hA
  have hp' : tmps[p]?.getD undef = .pointer (some ⟨b, 0, none⟩) := by simpa using hp
  have hq' : tmps[q]?.getD undef = .pointer (some ⟨c, 0, none⟩) := by simpa using hq
  simp only [results, h]
  simp [hp', hq', asAddr, hl, ha]

end Go.Proofs.Ytkkffgojblopjaa
