/-
  How a slice of orders reads, and what the walks are told of it. Nothing here is claimed by itself.
-/
import Derived.Test.YtkkffgojblopjaaLawBase
import Derived.ProofKit
import Derived.OpenShut
import Derived.ShutString
import Derived.ChangeOld
import Derived.Below
import Derived.Deep.Slices
namespace Go.Proofs.Ytkkffgojblopjaa
open Go.ChangeShapes Go.WideShapes Go.ChangeAt Go.RowKit

theorem own : ownKnob Try.prog.godebug = none := by kernel_rfl
theorem laidOut : laidOutB Try.prog = true := by kernel_rfl
theorem cellsOrder : Try.prog.cellsOf 36 = 6 := by kernel_rfl
theorem cellsInt : Try.prog.cellsOf 3 = 1 := by kernel_rfl

theorem one_of {c : Value} {cs : List Value} {i : Nat} (h : (cs.drop i).take 1 = [c]) : cs[i]? = some c := by
  have h1 : (cs.drop i)[0]? = some c := by
    have := congrArg (fun l => l[0]?) h
    simpa [List.getElem?_take] using this
  simpa using h1

theorem order_of_trod {H : Type} {enc : TypeId × Value → H} {W : World} {base : Nat} {spare : Nat → Bool} {held : Bool} {fuel : Nat} {cs : List Value} {x : DataW H × List MemPlace}
    (h : DataW.trod enc Try.prog W base spare held fuel 36 cs = some x) :
    ∃ o : Od, cs[0]? = some (.int .i64 o.k) ∧ cs[1]? = some (.int .i64 o.now) ∧ cs[2]? = some (.int .i64 o.jb) ∧ cs[3]? = some (.int .i64 o.tr) ∧ cs[4]? = some (.int .i64 o.wk) ∧ cs[5]? = some (.int .i64 o.tm) := by
  obtain ⟨xs, n, _, _, _, hxl, hf⟩ := DataW.trod_struct Try.underlying36 h
  have hg : ∀ (i : Nat) (f : Field), (#[_, _, _, _, _, _] : Array Field)[i]? = some f → _ := hf
  have get : ∀ (i : Nat) (f : Field), (f.type = 3) → (f.offset = i) → i < xs.length → DataW.trod enc Try.prog W base spare held n f.type ((cs.drop f.offset).take (Try.prog.cellsOf f.type)) = xs[i]? → ∃ k, cs[i]? = some (.int .i64 k) := by
    intro i f e1 e2 hi hh
    rw [e1, e2, cellsInt, List.getElem?_eq_getElem hi] at hh
    obtain ⟨k, hk, _, _⟩ := DataW.trod_int Try.underlying3 hh
    exact ⟨k, one_of hk⟩
  have hx6 : xs.length = 6 := hxl
  obtain ⟨k0, h0⟩ := get 0 _ rfl rfl (by omega) (hf 0 _ rfl)
  obtain ⟨k1, h1⟩ := get 1 _ rfl rfl (by omega) (hf 1 _ rfl)
  obtain ⟨k2, h2⟩ := get 2 _ rfl rfl (by omega) (hf 2 _ rfl)
  obtain ⟨k3, h3⟩ := get 3 _ rfl rfl (by omega) (hf 3 _ rfl)
  obtain ⟨k4, h4⟩ := get 4 _ rfl rfl (by omega) (hf 4 _ rfl)
  obtain ⟨k5, h5⟩ := get 5 _ rfl rfl (by omega) (hf 5 _ rfl)
  exact ⟨⟨k0, k1, k2, k3, k4, k5⟩, h0, h1, h2, h3, h4, h5⟩

theorem choose_od {n : Nat} {p : Nat → Od → Prop} (h : ∀ i, i < n → ∃ x, p i x) : ∃ f : Nat → Od, ∀ i, i < n → p i (f i) := by
  refine ⟨fun i => if hi : i < n then Classical.choose (h i hi) else ⟨0, 0, 0, 0, 0, 0⟩, fun i hi => ?_⟩
  simp only [dif_pos hi]
  exact Classical.choose_spec (h i hi)

theorem ords_of_trod {H : Type} {enc : TypeId × Value → H} {W : World} {base : Nat} {spare : Nat → Bool} {held : Bool} {fuel : Nat} {a : Option Addr} {len cap : Nat} {x : DataW H × List MemPlace}
    (h : DataW.trod enc Try.prog W base spare held fuel 22 [.slice a len cap] = some x) : ∃ os, Ords W a len os := by
  rcases Deep.open_slice Try.underlying22 h with ⟨hcs, _⟩ | ⟨y, len', cap', m, n, D, Pl, hcs, _, hl, _, hmm, _, hel⟩
  · simp at hcs
    exact ⟨fun _ => ⟨0, 0, 0, 0, 0, 0⟩, .inl hcs.2.1⟩
  · simp at hcs
    obtain ⟨rfl, rfl, rfl⟩ := hcs
    by_cases hz : len = 0
    · exact ⟨fun _ => ⟨0, 0, 0, 0, 0, 0⟩, .inl hz⟩
    have hml : len ≤ m := by rw [hmm]; split <;> omega
    rw [cellsOrder] at hel
    obtain ⟨b, off, sp⟩ := y
    have hsp : sp = none := by
      obtain ⟨cs', hc, ht⟩ := hel 0 (by omega)
      obtain ⟨o, h0, _⟩ := order_of_trod ht
      obtain ⟨_, _, he⟩ := World.cells?_some hc
      have := he 0 (by omega)
      rw [h0] at this
      simpa [Addr.add] using World.cell?_spot this
    subst hsp
    have each : ∀ i, i < len → ∃ o, OrdAt W b (off + i * 6) o := by
      intro i hi
      obtain ⟨cs', hc, ht⟩ := hel i (by omega)
      obtain ⟨o, h0, h1, h2, h3, h4, h5⟩ := order_of_trod ht
      obtain ⟨_, _, he⟩ := World.cells?_some hc
      have ad : ∀ j, (((⟨b, off, none⟩ : Addr).add (i * 6)).add j) = ⟨b, off + i * 6 + j, none⟩ := by
        intro j; unfold Addr.add; split <;> split <;> simp_all <;> omega
      have g : ∀ j, j < 6 → W.cell? ⟨b, off + i * 6 + j, none⟩ = cs'[j]? := fun j hj => by rw [← ad j]; exact he j hj
      exact ⟨o, (g 0 (by omega)).trans h0, (g 1 (by omega)).trans h1, (g 2 (by omega)).trans h2, (g 3 (by omega)).trans h3, (g 4 (by omega)).trans h4, (g 5 (by omega)).trans h5⟩
    obtain ⟨os, hos⟩ := choose_od each
    refine ⟨os, .inr ⟨b, off, rfl, ?_, hos⟩⟩
    exact World.block_lt_of_cell? W ⟨b, off + 0 * 6, none⟩ (hos 0 (by omega)).1

end Go.Proofs.Ytkkffgojblopjaa
