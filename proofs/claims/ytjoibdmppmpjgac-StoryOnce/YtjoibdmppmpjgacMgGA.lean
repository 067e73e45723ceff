/-
  Steps that came in; a guild's functions at a pointer. Nothing here is claimed by itself.
-/
import Derived.Test.YtjoibdmppmpjgacMgG2
namespace Go.Proofs.Ytjoibdmppmpjgac
open Go.RowKit

def sp0 : Sp := ⟨0, 0, 0, ⟨0, 0, 0, 0, 0, 0⟩⟩
def SpAt (w : World) (bl off : Nat) (s : Sp) : Prop :=
  w.cell? ⟨bl, off, none⟩ = some (.int .i64 s.k) ∧ w.cell? ⟨bl, off + 1, none⟩ = some (.int .i64 s.n) ∧ w.cell? ⟨bl, off + 2, none⟩ = some (.int .i64 s.keep) ∧ w.cell? ⟨bl, off + 3, none⟩ = some (.int .i64 s.o.k) ∧ w.cell? ⟨bl, off + 4, none⟩ = some (.int .i64 s.o.now) ∧
  w.cell? ⟨bl, off + 5, none⟩ = some (.int .i64 s.o.jb) ∧ w.cell? ⟨bl, off + 6, none⟩ = some (.int .i64 s.o.tr) ∧ w.cell? ⟨bl, off + 7, none⟩ = some (.int .i64 s.o.wk) ∧ w.cell? ⟨bl, off + 8, none⟩ = some (.int .i64 s.o.tm)
def Sps (w : World) (a : Option Addr) (len : Nat) (fs : Nat → Sp) : Prop :=
  len = 0 ∨ ∃ bl off, a = some ⟨bl, off, none⟩ ∧ bl < w.heap.size ∧ ∀ i, i < len → SpAt w bl (off + i * 9) (fs i)
theorem SpAt.chg {w w' : World} {bl off : Nat} {s : Sp} (h : SpAt w bl off s) (k : Chg [] w w') (hl : bl < w.heap.size) : SpAt w' bl off s := by
  obtain ⟨h0, h1, h2, h3, h4, h5, h6, h7, h8⟩ := h
  exact ⟨by rw [kCell k hl (by simp)]; exact h0, by rw [kCell k hl (by simp)]; exact h1, by rw [kCell k hl (by simp)]; exact h2, by rw [kCell k hl (by simp)]; exact h3, by rw [kCell k hl (by simp)]; exact h4, by rw [kCell k hl (by simp)]; exact h5, by rw [kCell k hl (by simp)]; exact h6, by rw [kCell k hl (by simp)]; exact h7, by rw [kCell k hl (by simp)]; exact h8⟩

theorem gstep_at (W0 : World) (m : Gm) (s : Gd) (x : Sp) (gb : Nat) (w : World) (h : Gld W0 w m s) (hg : m.gb = gb) :
    Calls Try.prog 19 #[.pointer (some ⟨gb, 0, none⟩), spV x] w fun e w' => e = .returned (ansV (stepG s x).2) ∧ ∃ m', Gnx W0 w m w' m' (stepG s x).1 := by
  subst hg
  exact gstep_any W0 m s x w h
theorem gnode_at (W0 : World) (m : Gm) (s : Gd) (n : Int) (gb : Nat) (w : World) (h : Gld W0 w m s) (hg : m.gb = gb) : Calls Try.prog 21 #[.pointer (some ⟨gb, 0, none⟩), .int .i64 n] w fun e w' => e = .returned (nodeV m s n) ∧ w' = w := by
  subst hg
  exact gnode_any W0 m s n w h
theorem Gld.disk {W0 w : World} {m : Gm} {s : Gd} (h : Gld W0 w m s) {gb : Nat} (hg : m.gb = gb) : w.cell? ⟨gb, 0, none⟩ = some (.pointer (some ⟨m.db, 0, none⟩)) ∧ gb < w.heap.size := by
  subst hg
  exact ⟨h.blk.cell 0, h.blk.lt⟩

end Go.Proofs.Ytjoibdmppmpjgac

namespace Go.Proofs.Ytjoibdmppmpjgac
open Go.RowKit

theorem Gnx.row {W0 w w' : World} {m m' : Gm} {s' : Gd} (h : Gnx W0 w m w' m' s') {base : Nat} {e : TypeId} {size : Nat} {v : Value} {n : Nat} {xs : List Value} (ho : w.ownsRow base e size v n xs) (hf : ∀ g, v.ownBlock = some g → m.own g = 100) :
    w'.ownsRow base e size v n xs ∧ ∀ g, v.ownBlock = some g → m'.own g = 100 := by
  obtain ⟨bs, k, hbs⟩ := h.ch
  exact ⟨own_keep ho k (fun x hx e => (hbs x hx).1 (hf x e)), fun g hg => h.ow g (ho.lt g hg).2 (hf g hg)⟩
/-- New memory of somebody else. -/
theorem Gld.alien {W0 w w' : World} {m : Gm} {s : Gd} (h : Gld W0 w m s) (k : Chg [] w w') : ∃ m', Gld W0 w' m' s ∧ m'.gb = m.gb ∧ m'.db = m.db ∧ m'.v = m.v ∧ m'.nb = m.nb ∧ m'.tb = m.tb ∧ (∀ x, w.heap.size ≤ x → m'.own x = 100) ∧ ∀ x, x < w.heap.size → m.own x = 100 → m'.own x = 100 :=
  ⟨_, h.fresh k, rfl, rfl, rfl, rfl, rfl, fun _ hx => grw_at m _ hx, fun _ hx e => grw_as m _ hx e⟩
theorem recsL_all (l : List Int) : allR l.length (getB l) = recsL l := rfl
theorem Tells.more {s s' : Gd} {x : Sp} {rs rs' : List Rc} {a : An} (h : Tells s x rs s' a rs') : ∃ q, rs' = rs ++ q ∧ q.length ≤ 1 := by
  rcases h with ⟨_, _, e, _⟩ | ⟨_, _, e, _⟩ | ⟨e, _⟩
  · exact ⟨_, e, by simp⟩
  · exact ⟨_, e, by simp⟩
  · exact ⟨[], by simp [e], by simp⟩
theorem atR_app {a b : List Rc} {i : Nat} (h : i < a.length) : atR (a ++ b) i = atR a i := by
  unfold atR
  simp [List.getD, List.getElem?_append_left h]
theorem Recs.congr' {w : World} {a : Option Addr} {n : Nat} {fs gs : Nat → Rc} (h : Recs w a n fs) (e : ∀ i, i < n → fs i = gs i) : Recs w a n gs := by
  rcases h with h | ⟨bl, off, h1, h2, h3⟩
  · exact .inl h
  · exact .inr ⟨bl, off, h1, h2, fun i hi => e i hi ▸ h3 i hi⟩

end Go.Proofs.Ytjoibdmppmpjgac

