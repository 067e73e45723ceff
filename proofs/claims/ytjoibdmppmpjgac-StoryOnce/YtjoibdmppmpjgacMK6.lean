/-
  The document's own disk (vergersref.Plate) in memory, and what its functions do. Nothing here is claimed by itself.
-/
import Derived.Test.YtjoibdmppmpjgacMgK3a
namespace Go.Proofs.Ytjoibdmppmpjgac
open Go.RowKit

theorem two_at0 (a b : Value) (r : Array Value) : (#[a, b] ++ r)[0]? = some a := by rw [Array.getElem?_append_left (by simp)]; rfl
theorem two_at1 (a b : Value) (r : Array Value) : (#[a, b] ++ r)[1]? = some b := by rw [Array.getElem?_append_left (by simp)]; rfl
theorem two_set0 (a b x : Value) (r : Array Value) : (#[a, b] ++ r).setIfInBounds 0 x = #[x, b] ++ r := by simp
theorem two_set1 (a b x : Value) (r : Array Value) : (#[a, b] ++ r).setIfInBounds 1 x = #[a, x] ++ r := by simp
/-- A disk of the document's own, at the head of a block: 'rest': what lies behind it in that block. -/
structure Plt (ty : TypeId) (rest : Array Value) (w : World) (b : Nat) (ep : Int) (v : Value) (l : List Int) : Prop where
  blk : Blk w b (#[.int .i64 ep, v] ++ rest) ty
  sl : Sl w v l
  few : l.length ≤ 1500
  ok : okB l
  ne : v.ownBlock ≠ some b
  lt : ∀ g, v.ownBlock = some g → g < w.heap.size
theorem Plt.chg {ty : TypeId} {rest : Array Value} {w w' : World} {b : Nat} {ep : Int} {v : Value} {l : List Int} (h : Plt ty rest w b ep v l) {bs : List Nat} (k : Chg bs w w') (hb : ∀ x ∈ bs, x ∉ fp b v) : Plt ty rest w' b ep v l :=
  ⟨h.blk.chg k (fun hx => hb b hx (mem_fp.2 (.inl rfl))), h.sl.chg k (fun x hx hv => hb x hx (mem_fp.2 (.inr hv))), h.few, h.ok, h.ne, fun g hg => Nat.lt_of_lt_of_le (h.lt g hg) k.size⟩
theorem Plt.alloc {ty : TypeId} {rest : Array Value} {w : World} {b : Nat} {ep : Int} {v : Value} {l : List Int} (h : Plt ty rest w b ep v l) (o : Obj) : Plt ty rest (w.alloc o) b ep v l := h.chg ((Chg.refl [] w).alloc o) (by simp)
theorem Plt.drew {ty : TypeId} {rest : Array Value} {w : World} {b : Nat} {ep : Int} {v : Value} {l : List Int} (h : Plt ty rest w b ep v l) : Plt ty rest w.drew b ep v l := h.chg ((Chg.refl [] w).drew) (by simp)
theorem Plt.cells {ty : TypeId} {rest : Array Value} {w : World} {b : Nat} {ep : Int} {v : Value} {l : List Int} (h : Plt ty rest w b ep v l) : w.cell? ⟨b, 0, none⟩ = some (.int .i64 ep) ∧ w.cell? ⟨b, 1, none⟩ = some v ∧ b < w.heap.size ∧ w.frozen? ⟨b, 0, none⟩ = false ∧ w.frozen? ⟨b, 1, none⟩ = false :=
  ⟨(h.blk.cell 0).trans (two_at0 _ _ _), (h.blk.cell 1).trans (two_at1 _ _ _), h.blk.lt, h.blk.fz 0, h.blk.fz 1⟩
theorem Plt.fp_lt {ty : TypeId} {rest : Array Value} {w : World} {b : Nat} {ep : Int} {v : Value} {l : List Int} (h : Plt ty rest w b ep v l) : ∀ x ∈ fp b v, x < w.heap.size := fun x hx => (mem_fp.1 hx).elim (fun e => e ▸ h.blk.lt) (fun e => h.lt x e)
/-- The bytes lie where they lay, or in new memory, or nowhere. -/
def Pnx (w : World) (v v' : Value) : Prop := ∀ g, v'.ownBlock = some g → v.ownBlock = some g ∨ w.heap.size ≤ g
theorem Pnx.same (w : World) (v : Value) : Pnx w v v := fun _ h => .inl h
theorem Nxt.pnx {w : World} {v v' : Value} (h : Nxt w v v') : Pnx w v v' := fun g hg => by
  rcases h with e | ⟨g', e, hg'⟩
  · exact .inl (e ▸ hg)
  · rw [e] at hg
    cases hg
    exact .inr hg'

/-- Two lists of blocks have none in common. -/
def Apart (xs ys : List Nat) : Prop := ∀ x ∈ xs, x ∉ ys
theorem Apart.symm {xs ys : List Nat} (h : Apart xs ys) : Apart ys xs := fun x hx hy => h x hy hx
theorem Apart.step {w : World} {b : Nat} {v v' : Value} {ys : List Nat} (h : Apart (fp b v) ys) (hn : Pnx w v v') (hy : ∀ y ∈ ys, y < w.heap.size) : Apart (fp b v') ys := fun x hx hxy => by
  rcases mem_fp.1 hx with e | e
  · exact h x (mem_fp.2 (.inl e)) hxy
  · rcases hn x e with e1 | e1
    · exact h x (mem_fp.2 (.inr e1)) hxy
    · have := hy x hxy; omega
theorem fp_ge_step {w : World} {b : Nat} {v v' : Value} {base : Nat} (h : ∀ x ∈ fp b v, base ≤ x) (hn : Pnx w v v') (hb : base ≤ w.heap.size) : ∀ x ∈ fp b v', base ≤ x := fun x hx => by
  rcases mem_fp.1 hx with e | e
  · exact h x (mem_fp.2 (.inl e))
  · rcases hn x e with e1 | e1
    · exact h x (mem_fp.2 (.inr e1))
    · omega


theorem fen_parts {ep e0 : Int} (h : fenB ep e0 = true) : decide (e0 < 1) = true ∨ (decide (e0 < 1) = false ∧ (e0 != ep) = true) := by
  unfold fenB at h
  cases hd : decide (e0 < 1)
  · rw [hd, Bool.false_or] at h
    exact .inr ⟨rfl, h⟩
  · exact .inl rfl
theorem fen_not' {ep e0 : Int} (h : fenB ep e0 = false) : decide (e0 < 1) = false ∧ (e0 != ep) = false := by
  unfold fenB at h
  simpa using h

/-- What was appended to new memory, and laid down. -/
theorem Plt.onto {ty e8 : TypeId} {rest : Array Value} {w w2 w3 : World} {b : Nat} {ep : Int} {v v2 v3 : Value} {l x : List Int} (h : Plt ty rest w b ep v l) (hx : okB x) (hn : l.length + x.length ≤ 1500) (own2 : w2.ownsRow w.heap.size e8 1 v2 l.length (U8 l)) (gr2 : Chg [] w w2)
    (own3 : w3.ownsRow w.heap.size e8 1 v3 (l.length + x.length) (U8 l ++ U8 x)) (gr3 : w2.grownBy w3 v2.ownBlock) :
    Plt ty rest (w3.setCell ⟨b, 1, none⟩ v3) b ep v3 (l ++ x) ∧ Chg [b] w (w3.setCell ⟨b, 1, none⟩ v3) ∧ Pnx w v v3 := by
  have hl := h.blk.lt
  have hne : v3.ownBlock ≠ some b := fun e => by have := (own3.lt b e).1; omega
  have g3 : Chg [] w w3 := gr2.grew gr3 (fun k hk => .inr (own2.lt k hk).1)
  have own3' : w3.ownsRow w.heap.size e8 1 v3 (l ++ x).length (U8 (l ++ x)) := by rw [List.length_append, U8_app]; exact own3
  refine ⟨⟨two_set1 _ _ _ _ ▸ (h.blk.chg g3 (by simp)).set 1 v3, ?_, by simpa using hn, h.ok.app hx, hne, fun g hg => by simpa using (own3.lt g hg).2⟩, ?_, fun g hg => .inr (own3.lt g hg).1⟩
  · exact (own_sl own3').chg ((Chg.refl [b] w3).setCell (p := ⟨b, 1, none⟩) (by simp) v3) (by simpa using hne)
  · exact (g3.wide (cs := [b]) (by simp)).setCell (p := ⟨b, 1, none⟩) (by simp) _


/-- What was cut, and laid down. -/
theorem Plt.cutTo {ty : TypeId} {rest : Array Value} {w : World} {b : Nat} {ep : Int} {v : Value} {l : List Int} (h : Plt ty rest w b ep v l) (v' : Value) (k : Nat) (hs : Sl w v' (l.take k)) (hat : v'.ownBlock = v.ownBlock) :
    Plt ty rest (w.setCell ⟨b, 1, none⟩ v') b ep v' (l.take k) ∧ Chg [b] w (w.setCell ⟨b, 1, none⟩ v') ∧ Pnx w v v' := by
  have hne : v'.ownBlock ≠ some b := by rw [hat]; exact h.ne
  refine ⟨⟨two_set1 _ _ _ _ ▸ h.blk.set 1 v', hs.chg ((Chg.refl [b] w).setCell (p := ⟨b, 1, none⟩) (by simp) v') (by simpa using hne), by have := h.few; rw [List.length_take]; omega, h.ok.take k, hne, fun g hg => by simpa using h.lt g (hat ▸ hg)⟩, ?_, fun g hg => .inl (hat ▸ hg)⟩
  exact (Chg.refl [b] w).setCell (p := ⟨b, 1, none⟩) (by simp) _


end Go.Proofs.Ytjoibdmppmpjgac

