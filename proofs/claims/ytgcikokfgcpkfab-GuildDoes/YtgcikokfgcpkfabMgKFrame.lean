/-
  How a slice of the disk's steps reads, and what the walks are told of it. Nothing here is claimed by itself.
-/
import Derived.ProofKit
import Derived.OpenShut
import Derived.ShutString
import Derived.ChangeOld
import Derived.Below
import Derived.Deep.Slices
import Derived.Test.YtgcikokfgcpkfabMgK3
namespace Go.Proofs.Ytgcikokfgcpkfab
open Go.ChangeShapes Go.WideShapes Go.ChangeAt Go.RowKit

theorem ownK : ownKnob Try.prog.godebug = none := by kernel_rfl
theorem laidOutK : laidOutB Try.prog = true := by kernel_rfl
theorem cellsStpK : Try.prog.cellsOf 29 = 4 := by kernel_rfl
theorem cellsIntK : Try.prog.cellsOf 3 = 1 := by kernel_rfl
theorem cellsU8K : Try.prog.cellsOf 5 = 1 := by kernel_rfl
theorem cellsBytK : Try.prog.cellsOf 27 = 1 := by kernel_rfl

theorem one_ofK {c : Value} {cs : List Value} {i : Nat} (h : (cs.drop i).take 1 = [c]) : cs[i]? = some c := by
  have h1 : (cs.drop i)[0]? = some c := by
    have := congrArg (fun l => l[0]?) h
    simpa [List.getElem?_take] using this
  simpa using h1
theorem u8_bdK {x : Int} (h : (Lit.int .u8 x).wf = true) : 0 ≤ x ∧ x < 256 := by
  simp [Lit.wf, IntKind.min, IntKind.max, IntKind.bits, IntKind.signed] at h
  omega
theorem i64_bdK {x : Int} (h : (Lit.int .i64 x).wf = true) : -9223372036854775808 ≤ x ∧ x ≤ 9223372036854775807 := by
  simp [Lit.wf, IntKind.min, IntKind.max, IntKind.bits, IntKind.signed] at h
  omega
theorem choose_intK {n : Nat} {p : Nat → Int → Prop} (h : ∀ i, i < n → ∃ x, p i x) : ∃ l : List Int, l.length = n ∧ ∀ i u, l[i]? = some u → p i u := by
  refine ⟨(List.range n).map (fun i => if hi : i < n then Classical.choose (h i hi) else 0), by simp, fun i u hu => ?_⟩
  simp only [List.getElem?_map, Option.map_eq_some_iff] at hu
  obtain ⟨j, hj, rfl⟩ := hu
  have hi : i < n := by
    rcases Nat.lt_or_ge i n with h1 | h1
    · exact h1
    · rw [List.getElem?_eq_none (by simpa using h1)] at hj
      cases hj
  rw [List.getElem?_range hi] at hj
  cases hj
  simp only [dif_pos hi]
  exact Classical.choose_spec (h i hi)

theorem sl_of_trod {H : Type} {enc : TypeId × Value → H} {W : World} {base : Nat} {spare : Nat → Bool} {held : Bool} {fuel : Nat} {cs : List Value} {x : DataW H × List MemPlace}
    (h : DataW.trod enc Try.prog W base spare held fuel 27 cs = some x) : ∃ v l, cs = [v] ∧ Sl W v l ∧ okB l := by
  rcases Deep.open_slice Try.underlying27 h with ⟨hcs, _⟩ | ⟨y, len', cap', m, n, D, Pl, hcs, _, hl, _, hmm, _, hel⟩
  · exact ⟨_, [], hcs, .inl ⟨rfl, rfl⟩, okB_nil⟩
  · have hml : len' ≤ m := by rw [hmm]; split <;> omega
    rw [cellsU8K] at hel
    have one : ∀ i, i < len' → ∃ k, W.cell? (y.add i) = some (.int .u8 k) ∧ 0 ≤ k ∧ k < 256 := by
      intro i hi
      obtain ⟨cs', hc, ht⟩ := hel i (by omega)
      obtain ⟨k, hk, _, hw⟩ := DataW.trod_int Try.underlying5 ht
      subst hk
      obtain ⟨_, _, he⟩ := World.cells?_some hc
      have h1 := he 0 (by omega)
      refine ⟨k, ?_, u8_bdK hw⟩
      have e : (y.add (i * 1)).add 0 = y.add i := by
        rw [Nat.mul_one]
        unfold Addr.add
        split <;> split <;> simp_all
      rw [e] at h1
      simpa using h1
    obtain ⟨l, hll, hl1⟩ := choose_intK one
    refine ⟨_, l, hcs, .inr ⟨y, cap', by rw [hll], by omega, fun j u hj => (hl1 j u hj).1⟩, fun u hu => ?_⟩
    obtain ⟨j, hj⟩ := List.getElem?_of_mem hu
    exact (hl1 j u hj).2

theorem stp_of_trod {H : Type} {enc : TypeId × Value → H} {W : World} {base : Nat} {spare : Nat → Bool} {held : Bool} {fuel : Nat} {cs : List Value} {x : DataW H × List MemPlace}
    (h : DataW.trod enc Try.prog W base spare held fuel 29 cs = some x) :
    ∃ s : Ds, cs[0]? = some (.int .i64 s.d) ∧ cs[1]? = some (.int .i64 s.e) ∧ cs[2]? = some (.int .i64 s.n) ∧ cs[3]? = some s.v ∧ Sl W s.v s.x ∧ okB s.x ∧ -9223372036854775808 ≤ s.e ∧ s.e ≤ 9223372036854775807 := by
  obtain ⟨xs, n, _, _, _, hxl, hf⟩ := DataW.trod_struct Try.underlying29 h
  have get : ∀ (i : Nat) (f : Field), (f.type = 3) → (f.offset = i) → i < xs.length → DataW.trod enc Try.prog W base spare held n f.type ((cs.drop f.offset).take (Try.prog.cellsOf f.type)) = xs[i]? → ∃ k, cs[i]? = some (.int .i64 k) ∧ -9223372036854775808 ≤ k ∧ k ≤ 9223372036854775807 := by
    intro i f e1 e2 hi hh
    rw [e1, e2, cellsIntK, List.getElem?_eq_getElem hi] at hh
    obtain ⟨k, hk, _, hw⟩ := DataW.trod_int Try.underlying3 hh
    exact ⟨k, one_ofK hk, i64_bdK hw⟩
  have hx4 : xs.length = 4 := hxl
  obtain ⟨k0, h0, _⟩ := get 0 _ rfl rfl (by omega) (hf 0 _ rfl)
  obtain ⟨k1, h1, b1⟩ := get 1 _ rfl rfl (by omega) (hf 1 _ rfl)
  obtain ⟨k2, h2, _⟩ := get 2 _ rfl rfl (by omega) (hf 2 _ rfl)
  have g3 : DataW.trod enc Try.prog W base spare held n 27 ((cs.drop 3).take (Try.prog.cellsOf 27)) = xs[3]? := hf 3 _ rfl
  rw [cellsBytK, List.getElem?_eq_getElem (by omega)] at g3
  obtain ⟨v, l, e3, hsl, hok⟩ := sl_of_trod g3
  exact ⟨⟨k0, k1, k2, v, l⟩, h0, h1, h2, one_ofK e3, hsl, hok, b1⟩

theorem choose_ds {n : Nat} {p : Nat → Ds → Prop} (h : ∀ i, i < n → ∃ x, p i x) : ∃ f : Nat → Ds, ∀ i, i < n → p i (f i) := by
  refine ⟨fun i => if hi : i < n then Classical.choose (h i hi) else ds0, fun i hi => ?_⟩
  simp only [dif_pos hi]
  exact Classical.choose_spec (h i hi)

theorem stps_of_trod {H : Type} {enc : TypeId × Value → H} {W : World} {base : Nat} {spare : Nat → Bool} {held : Bool} {fuel : Nat} {a : Option Addr} {len cap : Nat} {x : DataW H × List MemPlace}
    (h : DataW.trod enc Try.prog W base spare held fuel 22 [.slice a len cap] = some x) : ∃ fs, Stps W a len fs := by
  rcases Deep.open_slice Try.underlying22 h with ⟨hcs, _⟩ | ⟨y, len', cap', m, n, D, Pl, hcs, _, hl, _, hmm, _, hel⟩
  · simp at hcs
    exact ⟨fun _ => ds0, .inl hcs.2.1⟩
  · simp at hcs
    obtain ⟨rfl, rfl, rfl⟩ := hcs
    by_cases hz : len = 0
    · exact ⟨fun _ => ds0, .inl hz⟩
    have hml : len ≤ m := by rw [hmm]; split <;> omega
    rw [cellsStpK] at hel
    obtain ⟨b, off, sp⟩ := y
    have hsp : sp = none := by
      obtain ⟨cs', hc, ht⟩ := hel 0 (by omega)
      obtain ⟨o, h0, _⟩ := stp_of_trod ht
      obtain ⟨_, _, he⟩ := World.cells?_some hc
      have := he 0 (by omega)
      rw [h0] at this
      simpa [Addr.add] using World.cell?_spot this
    subst hsp
    have each : ∀ i, i < len → ∃ s, StpAt W b (off + i * 4) s := by
      intro i hi
      obtain ⟨cs', hc, ht⟩ := hel i (by omega)
      obtain ⟨s, h0, h1, h2, h3, h4⟩ := stp_of_trod ht
      obtain ⟨_, _, he⟩ := World.cells?_some hc
      have ad : ∀ j, (((⟨b, off, none⟩ : Addr).add (i * 4)).add j) = ⟨b, off + i * 4 + j, none⟩ := by
        intro j; unfold Addr.add; split <;> split <;> simp_all <;> omega
      have g : ∀ j, j < 4 → W.cell? ⟨b, off + i * 4 + j, none⟩ = cs'[j]? := fun j hj => by rw [← ad j]; exact he j hj
      exact ⟨s, (g 0 (by omega)).trans h0, (g 1 (by omega)).trans h1, (g 2 (by omega)).trans h2, (g 3 (by omega)).trans h3, h4⟩
    obtain ⟨fs, hfs⟩ := choose_ds each
    refine ⟨fs, .inr ⟨b, off, rfl, ?_, hfs⟩⟩
    exact World.block_lt_of_cell? W ⟨b, off + 0 * 4, none⟩ (hfs 0 (by omega)).1

end Go.Proofs.Ytgcikokfgcpkfab

