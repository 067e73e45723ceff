/-
  How a slice of records reads. Nothing here is claimed by itself.
-/
import Derived.Test.YtdppeddiffjamaaCFrame
import Derived.Test.YtdppeddiffjamaaC8
namespace Go.Proofs.Ytdppeddiffjamaa
open Go.ChangeShapes Go.WideShapes Go.ChangeAt Go.RowKit

theorem choose_rc {n : Nat} {p : Nat → Rc → Prop} (h : ∀ i, i < n → ∃ x, p i x) : ∃ f : Nat → Rc, ∀ i, i < n → p i (f i) := by
  refine ⟨fun i => if hi : i < n then Classical.choose (h i hi) else rc0, fun i hi => ?_⟩
  simp only [dif_pos hi]
  exact Classical.choose_spec (h i hi)

theorem recs_of_trod {H : Type} {enc : TypeId × Value → H} {W : World} {base : Nat} {spare : Nat → Bool} {held : Bool} {fuel : Nat} {a : Option Addr} {len cap : Nat} {x : DataW H × List MemPlace}
    (h : DataW.trod enc Try.prog W base spare held fuel 57 [.slice a len cap] = some x) : ∃ fs, Recs W a len fs := by
  rcases Deep.open_slice Try.underlying57 h with ⟨hcs, _⟩ | ⟨y, len', cap', m, n, D, Pl, hcs, _, hl, _, hmm, _, hel⟩
  · simp at hcs
    exact ⟨fun _ => rc0, .inl hcs.2.1⟩
  · simp at hcs
    obtain ⟨rfl, rfl, rfl⟩ := hcs
    by_cases hz : len = 0
    · exact ⟨fun _ => rc0, .inl hz⟩
    have hml : len ≤ m := by rw [hmm]; split <;> omega
    rw [cellsRecC] at hel
    obtain ⟨b, off, sp⟩ := y
    have hsp : sp = none := by
      obtain ⟨cs', hc, ht⟩ := hel 0 (by omega)
      obtain ⟨o, h0, _⟩ := rec_of_trod ht
      obtain ⟨_, _, he⟩ := World.cells?_some hc
      have := he 0 (by omega)
      rw [h0] at this
      simpa [Addr.add] using World.cell?_spot this
    subst hsp
    have each : ∀ i, i < len → ∃ r, RecAt W b (off + i * 7) r := by
      intro i hi
      obtain ⟨cs', hc, ht⟩ := hel i (by omega)
      obtain ⟨r, h0, h1, h2, h3, h4, h5, h6⟩ := rec_of_trod ht
      obtain ⟨_, _, he⟩ := World.cells?_some hc
      have ad : ∀ j, (((⟨b, off, none⟩ : Addr).add (i * 7)).add j) = ⟨b, off + i * 7 + j, none⟩ := by
        intro j; unfold Addr.add; split <;> split <;> simp_all <;> omega
      have g : ∀ j, j < 7 → W.cell? ⟨b, off + i * 7 + j, none⟩ = cs'[j]? := fun j hj => by rw [← ad j]; exact he j hj
      exact ⟨r, (g 0 (by omega)).trans h0, (g 1 (by omega)).trans h1, (g 2 (by omega)).trans h2, (g 3 (by omega)).trans h3, (g 4 (by omega)).trans h4, (g 5 (by omega)).trans h5, (g 6 (by omega)).trans h6⟩
    obtain ⟨fs, hfs⟩ := choose_rc each
    refine ⟨fs, .inr ⟨b, off, rfl, ?_, hfs⟩⟩
    exact World.block_lt_of_cell? W ⟨b, off + 0 * 7, none⟩ (hfs 0 (by omega)).1

end Go.Proofs.Ytdppeddiffjamaa
