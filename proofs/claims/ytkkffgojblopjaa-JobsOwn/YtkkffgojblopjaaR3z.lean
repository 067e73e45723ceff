/-
  The document's own table: what an order does to it. Nothing here is claimed by itself.
-/
import Derived.Test.YtkkffgojblopjaaR1
import Derived.Test.YtkkffgojblopjaaR2
import Derived.Test.YtkkffgojblopjaaPure
import Derived.Deep.WholeRow
namespace Go.Proofs.Ytkkffgojblopjaa
open Go.RowKit

theorem drop_pass {P : Tb} (hI : Inv P) {n : Nat} (hn : n < 6) (hs : (P.js n).st = 2) : passT (P.set n ⟨(P.js n).st, (P.js n).wk, (P.js n).tr, P.now⟩) P.now = P.set n (relJ (P.js n)) := by
  have hm : max P.now P.now = P.now := by omega
  unfold passT
  rw [Tb.set_now, hm]
  unfold passTo Tb.set
  congr 1
  funext k
  by_cases hk : k < 6
  · simp only [hk, if_true]
    by_cases e : k = n
    · subst e
      simp only [if_true]
      unfold ageJ
      rw [if_pos ⟨hs, Int.le_refl _⟩]
      rfl
    · simp only [e, if_false]
      have := hI.2.2 k hk
      unfold JInv at this
      unfold ageJ
      rw [if_neg]
      omega
  · have e : ¬ k = n := by omega
    simp [hk, e]

theorem Blk.new2 (w : World) (o o' : Obj) (c : Array Value) (t : TypeId) : Blk (((w.alloc o).alloc o').alloc (.cells c t)) (w.heap.size + 1 + 1) c t := by
  have := Blk.new ((w.alloc o).alloc o') c t
  simpa only [World.size_alloc] using this
theorem Blk.new3 (w : World) (o o' o'' : Obj) (c : Array Value) (t : TypeId) : Blk ((((w.alloc o).alloc o').alloc o'').alloc (.cells c t)) (w.heap.size + 1 + 1 + 1) c t := by
  have := Blk.new (((w.alloc o).alloc o').alloc o'') c t
  simpa only [World.size_alloc] using this

end Go.Proofs.Ytkkffgojblopjaa
