/-
  The load and the store of a whole table, as laws of the walk. Nothing here is claimed by itself.
-/
import Derived.Test.YtkkffgojblopjaaBase
import Derived.Deep.MidRow
namespace Go.Proofs.Ytkkffgojblopjaa
open Go.RowKit

theorem tabInfo : (Try.prog.info? 78).map (·.size) = some 25 := by kernel_rfl
theorem tabRow : ∃ d, Try.prog.underlying 78 = some d ∧ d.isRow = true := ⟨_, Try.underlying78, rfl⟩
theorem brdInfo : (Try.prog.info? 31).map (·.size) = some 25 := by kernel_rfl
theorem brdRow : ∃ d, Try.prog.underlying 31 = some d ∧ d.isRow = true := ⟨_, Try.underlying31, rfl⟩

theorem Tb.size_cells (T : Tb) : T.cells.size = 25 := rfl
theorem Tb.one_cells (T : Tb) : T.cells.all (·.oneCell') = true := by simp [Tb.cells, Value.oneCell']

/-- A whole table is read. -/
theorem wpList_load_tab {ops : Array Oper} {rest : List Oper} {op : Oper} {a : Act} {w : World} {Q : Exit → Act → World → Prop} (ty : TypeId) (hr : ∃ d, Try.prog.underlying ty = some d ∧ d.isRow = true) (hi : (Try.prog.info? ty).map (·.size) = some 25)
    (hgd : op.guard = none) (x : Operand) (ho : op.op = .load ty x) (b : Nat) (hx : a.eval x = .pointer (some ⟨b, 0, none⟩)) (ty' : TypeId) (T : Tb) (h : Has ty' w b T)
    (k : wpList Try.prog ops Q rest (a.put op.dst (.agg T.cells)) w) : wpList Try.prog ops Q (op :: rest) a w := by
  obtain ⟨d, hu, hd⟩ := hr
  have hc : w.rangeAt b 0 T.cells.toList := fun j v hv => by rw [Nat.zero_add, h.cellAt]; simpa using hv
  exact wpList_load_mid hgd ty x ho b 0 hx T.cells.toList d hc hu hd (by rw [hi]; rfl) (by simpa using k)

theorem setCells_raw (b : Nat) (ty : TypeId) : ∀ (vs : List Value) (o : Nat) (w : World) (c : Array Value), w.heap[b]? = some (.cells c ty) → ∃ c', (w.setCells b o vs).heap[b]? = some (.cells c' ty) ∧ c'.size = c.size ∧ ∀ i : Nat, c'[i]? = if o ≤ i ∧ i < o + vs.length ∧ i < c.size then vs[i - o]? else c[i]?
  | [], o, w, c, h => ⟨c, h, rfl, fun i => by simp; intro h1 h2; omega⟩
  | v :: r, o, w, c, h => by
    obtain ⟨c', h1, h2, h3⟩ := setCells_raw b ty r (o + 1) (w.setCell ⟨b, o, none⟩ v) _ (Has.rawSet h o v)
    refine ⟨c', h1, by simpa using h2, fun i => ?_⟩
    rw [h3 i]
    simp only [Array.size_setIfInBounds, List.length_cons, Array.getElem?_setIfInBounds]
    by_cases e1 : i = o
    · subst e1
      by_cases e2 : i < c.size
      · simp [e2]; omega
      · simp [e2]
    · by_cases e2 : o + 1 ≤ i ∧ i < o + 1 + r.length ∧ i < c.size
      · rw [if_pos e2, if_pos (by omega)]
        rw [show i - o = (i - (o + 1)) + 1 by omega]
        simp
      · rw [if_neg e2, if_neg (fun e => e1 e.symm), if_neg (by omega)]

theorem setCells_others (b : Nat) : ∀ (vs : List Value) (o : Nat) (w : World), (w.setCells b o vs).os = w.os ∧ (w.setCells b o vs).tape = w.tape ∧ (w.setCells b o vs).output = w.output ∧ (w.setCells b o vs).heap.size = w.heap.size ∧ ∀ k, k ≠ b → (w.setCells b o vs).heap[k]? = w.heap[k]?
  | [], _, _ => ⟨rfl, rfl, rfl, rfl, fun _ _ => rfl⟩
  | v :: r, o, w => by
    obtain ⟨h1, h2, h3, h4, h5⟩ := setCells_others b r (o + 1) (w.setCell ⟨b, o, none⟩ v)
    refine ⟨h1, h2, h3, by rw [World.setCells, h4]; simp [World.setCell], fun k hk => ?_⟩
    rw [World.setCells, h5 k hk, Below.heap_setCell _ _ _ _ hk]

theorem Has.setAll {ty : TypeId} {w : World} {b : Nat} {T : Tb} (h : Has ty w b T) (T' : Tb) : Has ty (w.setCells b 0 T'.cells.toList) b T' := by
  obtain ⟨c', h1, h2, h3⟩ := setCells_raw b ty T'.cells.toList 0 w T.cells h
  have : c' = T'.cells := by
    apply Array.ext_getElem?
    intro i
    rw [h3 i]
    by_cases hi : i < 25
    · rw [if_pos ⟨Nat.zero_le _, by simpa [Tb.size_cells] using hi, by simpa [Tb.size_cells] using hi⟩]; simp
    · rw [if_neg (by rw [Tb.size_cells]; omega), Array.getElem?_eq_none (by rw [Tb.size_cells]; omega), Array.getElem?_eq_none (by rw [Tb.size_cells]; omega)]
  subst this
  exact h1

theorem Chg.setAll {bs : List Nat} {a w : World} (h : Chg bs a w) {b : Nat} (hp : b ∈ bs ∨ a.heap.size ≤ b) (o : Nat) (vs : List Value) : Chg bs a (w.setCells b o vs) := by
  obtain ⟨h1, h2, h3, h4, h5⟩ := setCells_others b vs o w
  exact h.trans (cs := [b]) ⟨h1, h2, h3, by omega, fun k _ hn => h5 k (by simpa using hn)⟩ (fun x hx => by simp at hx; subst hx; exact hp)

/-- A whole table is written over another one. -/
theorem wpList_store_tab {ops : Array Oper} {rest : List Oper} {op : Oper} {a : Act} {w : World} {Q : Exit → Act → World → Prop} (ty : TypeId) (hi : (Try.prog.info? ty).map (·.size) = some 25)
    (hgd : op.guard = none) (x y : Operand) (ho : op.op = .store ty x y) (b : Nat) (hx : a.eval x = .pointer (some ⟨b, 0, none⟩)) (T' : Tb) (hy : a.eval y = .agg T'.cells) (ty' : TypeId) (T : Tb) (h : Has ty' w b T)
    (k : ∀ w', Has ty' w' b T' → Chg [b] w w' → w'.heap.size = w.heap.size → wpList Try.prog ops Q rest (a.put op.dst undef) w') : wpList Try.prog ops Q (op :: rest) a w := by
  refine wpList_store_mid hgd ty x y ho b 0 T'.cells hx hy (fun j hj => ⟨?_, ?_⟩) (by rw [hi]; rfl) T'.one_cells (k _ (h.setAll T') ((Chg.refl _ _).setAll (by simp) _ _) (setCells_others b _ 0 w).2.2.2.1)
  · rw [Nat.zero_add, h.cellAt]; simpa [Tb.size_cells] using hj
  · rw [h.fz]

end Go.Proofs.Ytkkffgojblopjaa
