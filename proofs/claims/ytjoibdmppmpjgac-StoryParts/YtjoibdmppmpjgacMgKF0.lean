/-
  How a slice of the disk's steps reads, and what the walks are told of it. Nothing here is claimed by itself.
-/
import Derived.ProofKit
import Derived.OpenShut
import Derived.ShutString
import Derived.ChangeOld
import Derived.Below
import Derived.Deep.Slices
import Derived.Test.YtjoibdmppmpjgacMgK3a
import Derived.Test.YtjoibdmppmpjgacMgGA
namespace Go.Proofs.Ytjoibdmppmpjgac
open Go.ChangeShapes Go.WideShapes Go.ChangeAt Go.RowKit

theorem ownK : ownKnob Try.prog.godebug = none := by kernel_rfl
theorem laidOutK : laidOutB Try.prog = true := by kernel_rfl
theorem cellsIntK : Try.prog.cellsOf 3 = 1 := by kernel_rfl
theorem cellsU8K : Try.prog.cellsOf 5 = 1 := by kernel_rfl
theorem cellsBytK : Try.prog.cellsOf 22 = 1 := by kernel_rfl

theorem one_ofK {c : Value} {cs : List Value} {i : Nat} (h : (cs.drop i).take 1 = [c]) : cs[i]? = some c := by
  have h1 : (cs.drop i)[0]? = some c := by
    have := congrArg (fun l => l[0]?) h
    simpa [List.getElem?_take] using this
  simpa using h1
theorem u8_bdK {x : Int} (h : (Lit.int .u8 x).wf = true) : 0 ≤ x ∧ x < 256 := by
  simp [Lit.wf, IntKind.min, IntKind.max, IntKind.bits, IntKind.signed] at h
  omega
theorem i64_bdK {x : Int} (h : (Lit.int .i64 x).wf = true) : -9223372036854775808 ≤ x ∧ x ≤ 9223372036854775807 := by
  simp [Lit.wf, IntKind.min, IntKind.max, IntKind.bits, IntKind.signed] at h
  omega
theorem choose_intK {n : Nat} {p : Nat → Int → Prop} (h : ∀ i, i < n → ∃ x, p i x) : ∃ l : List Int, l.length = n ∧ ∀ i u, l[i]? = some u → p i u := by
  refine ⟨(List.range n).map (fun i => if hi : i < n then Classical.choose (h i hi) else 0), by simp, fun i u hu => ?_⟩
  simp only [List.getElem?_map, Option.map_eq_some_iff] at hu
  obtain ⟨j, hj, rfl⟩ := hu
  have hi : i < n := by
    rcases Nat.lt_or_ge i n with h1 | h1
    · exact h1
    · rw [List.getElem?_eq_none (by simpa using h1)] at hj
      cases hj
  rw [List.getElem?_range hi] at hj
  cases hj
  simp only [dif_pos hi]
  exact Classical.choose_spec (h i hi)

theorem sl_of_trod {H : Type} {enc : TypeId × Value → H} {W : World} {base : Nat} {spare : Nat → Bool} {held : Bool} {fuel : Nat} {cs : List Value} {x : DataW H × List MemPlace}
    (h : DataW.trod enc Try.prog W base spare held fuel 22 cs = some x) : ∃ v l, cs = [v] ∧ Sl W v l ∧ okB l := by
  rcases Deep.open_slice Try.underlying22 h with ⟨hcs, _⟩ | ⟨y, len', cap', m, n, D, Pl, hcs, _, hl, _, hmm, _, hel⟩
  · exact ⟨_, [], hcs, .inl ⟨rfl, rfl⟩, okB_nil⟩
  · have hml : len' ≤ m := by rw [hmm]; split <;> omega
    rw [cellsU8K] at hel
    have one : ∀ i, i < len' → ∃ k, W.cell? (y.add i) = some (.int .u8 k) ∧ 0 ≤ k ∧ k < 256 := by
      intro i hi
      obtain ⟨cs', hc, ht⟩ := hel i (by omega)
      obtain ⟨k, hk, _, hw⟩ := DataW.trod_int Try.underlying5 ht
      subst hk
      obtain ⟨_, _, he⟩ := World.cells?_some hc
      have h1 := he 0 (by omega)
      refine ⟨k, ?_, u8_bdK hw⟩
      have e : (y.add (i * 1)).add 0 = y.add i := by
        rw [Nat.mul_one]
        unfold Addr.add
        split <;> split <;> simp_all
      rw [e] at h1
      simpa using h1
    obtain ⟨l, hll, hl1⟩ := choose_intK one
    refine ⟨_, l, hcs, .inr ⟨y, cap', by rw [hll], by omega, fun j u hj => (hl1 j u hj).1⟩, fun u hu => ?_⟩
    obtain ⟨j, hj⟩ := List.getElem?_of_mem hu
    exact (hl1 j u hj).2




end Go.Proofs.Ytjoibdmppmpjgac

namespace Go.Proofs.Ytjoibdmppmpjgac
open Go.ChangeShapes Go.WideShapes Go.ChangeAt Go.RowKit

theorem cellsSpG : Try.prog.cellsOf 59 = 9 := by kernel_rfl

theorem cellsOrdG : Try.prog.cellsOf 29 = 6 := by kernel_rfl
theorem order_of_trodG {H : Type} {enc : TypeId × Value → H} {W : World} {base : Nat} {spare : Nat → Bool} {held : Bool} {fuel : Nat} {cs : List Value} {x : DataW H × List MemPlace}
    (h : DataW.trod enc Try.prog W base spare held fuel 29 cs = some x) :
    ∃ o : Od, cs[0]? = some (.int .i64 o.k) ∧ cs[1]? = some (.int .i64 o.now) ∧ cs[2]? = some (.int .i64 o.jb) ∧ cs[3]? = some (.int .i64 o.tr) ∧ cs[4]? = some (.int .i64 o.wk) ∧ cs[5]? = some (.int .i64 o.tm) := by
  obtain ⟨xs, n, _, _, _, hxl, hf⟩ := DataW.trod_struct Try.underlying29 h
  have get : ∀ (i : Nat) (f : Field), (f.type = 3) → (f.offset = i) → i < xs.length → DataW.trod enc Try.prog W base spare held n f.type ((cs.drop f.offset).take (Try.prog.cellsOf f.type)) = xs[i]? → ∃ k, cs[i]? = some (.int .i64 k) := by
    intro i f e1 e2 hi hh
    rw [e1, e2, cellsIntK, List.getElem?_eq_getElem hi] at hh
    obtain ⟨k, hk, _, _⟩ := DataW.trod_int Try.underlying3 hh
    exact ⟨k, one_ofK hk⟩
  have hx6 : xs.length = 6 := hxl
  obtain ⟨k0, h0⟩ := get 0 _ rfl rfl (by omega) (hf 0 _ rfl)
  obtain ⟨k1, h1⟩ := get 1 _ rfl rfl (by omega) (hf 1 _ rfl)
  obtain ⟨k2, h2⟩ := get 2 _ rfl rfl (by omega) (hf 2 _ rfl)
  obtain ⟨k3, h3⟩ := get 3 _ rfl rfl (by omega) (hf 3 _ rfl)
  obtain ⟨k4, h4⟩ := get 4 _ rfl rfl (by omega) (hf 4 _ rfl)
  obtain ⟨k5, h5⟩ := get 5 _ rfl rfl (by omega) (hf 5 _ rfl)
  exact ⟨⟨k0, k1, k2, k3, k4, k5⟩, h0, h1, h2, h3, h4, h5⟩

theorem sp_of_trod {H : Type} {enc : TypeId × Value → H} {W : World} {base : Nat} {spare : Nat → Bool} {held : Bool} {fuel : Nat} {cs : List Value} {x : DataW H × List MemPlace}
    (h : DataW.trod enc Try.prog W base spare held fuel 59 cs = some x) :
    ∃ s : Sp, cs[0]? = some (.int .i64 s.k) ∧ cs[1]? = some (.int .i64 s.n) ∧ cs[2]? = some (.int .i64 s.keep) ∧ cs[3]? = some (.int .i64 s.o.k) ∧ cs[4]? = some (.int .i64 s.o.now) ∧ cs[5]? = some (.int .i64 s.o.jb) ∧ cs[6]? = some (.int .i64 s.o.tr) ∧ cs[7]? = some (.int .i64 s.o.wk) ∧ cs[8]? = some (.int .i64 s.o.tm) := by
  obtain ⟨xs, n, _, _, _, hxl, hf⟩ := DataW.trod_struct Try.underlying59 h
  have get : ∀ (i : Nat) (f : Field), (f.type = 3) → (f.offset = i) → i < xs.length → DataW.trod enc Try.prog W base spare held n f.type ((cs.drop f.offset).take (Try.prog.cellsOf f.type)) = xs[i]? → ∃ k, cs[i]? = some (.int .i64 k) := by
    intro i f e1 e2 hi hh
    rw [e1, e2, cellsIntK, List.getElem?_eq_getElem hi] at hh
    obtain ⟨k, hk, _, _⟩ := DataW.trod_int Try.underlying3 hh
    exact ⟨k, one_ofK hk⟩
  have hx4 : xs.length = 4 := hxl
  obtain ⟨k0, h0⟩ := get 0 _ rfl rfl (by omega) (hf 0 _ rfl)
  obtain ⟨k1, h1⟩ := get 1 _ rfl rfl (by omega) (hf 1 _ rfl)
  obtain ⟨k2, h2⟩ := get 2 _ rfl rfl (by omega) (hf 2 _ rfl)
  have g3 : DataW.trod enc Try.prog W base spare held n 29 ((cs.drop 3).take (Try.prog.cellsOf 29)) = xs[3]? := hf 3 _ rfl
  rw [cellsOrdG, List.getElem?_eq_getElem (by omega)] at g3
  obtain ⟨o, i0, i1, i2, i3, i4, i5⟩ := order_of_trodG g3
  have sh : ∀ i, i < 6 → ((cs.drop 3).take 6)[i]? = cs[i + 3]? := fun i hi => by rw [List.getElem?_take_of_lt hi, List.getElem?_drop, Nat.add_comm]
  rw [sh _ (by omega)] at i0 i1 i2 i3 i4 i5
  exact ⟨⟨k0, k1, k2, o⟩, h0, h1, h2, i0, i1, i2, i3, i4, i5⟩

theorem choose_sp {n : Nat} {p : Nat → Sp → Prop} (h : ∀ i, i < n → ∃ x, p i x) : ∃ f : Nat → Sp, ∀ i, i < n → p i (f i) := by
  refine ⟨fun i => if hi : i < n then Classical.choose (h i hi) else sp0, fun i hi => ?_⟩
  simp only [dif_pos hi]
  exact Classical.choose_spec (h i hi)

theorem sps_of_trod {H : Type} {enc : TypeId × Value → H} {W : World} {base : Nat} {spare : Nat → Bool} {held : Bool} {fuel : Nat} {a : Option Addr} {len cap : Nat} {x : DataW H × List MemPlace}
    (h : DataW.trod enc Try.prog W base spare held fuel 54 [.slice a len cap] = some x) : ∃ fs, Sps W a len fs := by
  rcases Deep.open_slice Try.underlying54 h with ⟨hcs, _⟩ | ⟨y, len', cap', m, n, D, Pl, hcs, _, hl, _, hmm, _, hel⟩
  · simp at hcs
    exact ⟨fun _ => sp0, .inl hcs.2.1⟩
  · simp at hcs
    obtain ⟨rfl, rfl, rfl⟩ := hcs
    by_cases hz : len = 0
    · exact ⟨fun _ => sp0, .inl hz⟩
    have hml : len ≤ m := by rw [hmm]; split <;> omega
    rw [cellsSpG] at hel
    obtain ⟨b, off, sp⟩ := y
    have hsp : sp = none := by
      obtain ⟨cs', hc, ht⟩ := hel 0 (by omega)
      obtain ⟨o, h0, _⟩ := sp_of_trod ht
      obtain ⟨_, _, he⟩ := World.cells?_some hc
      have := he 0 (by omega)
      rw [h0] at this
      simpa [Addr.add] using World.cell?_spot this
    subst hsp
    have each : ∀ i, i < len → ∃ s, SpAt W b (off + i * 9) s := by
      intro i hi
      obtain ⟨cs', hc, ht⟩ := hel i (by omega)
      obtain ⟨s, h0, h1, h2, h3, h4, h5, h6, h7, h8⟩ := sp_of_trod ht
      obtain ⟨_, _, he⟩ := World.cells?_some hc
      have ad : ∀ j, (((⟨b, off, none⟩ : Addr).add (i * 9)).add j) = ⟨b, off + i * 9 + j, none⟩ := by
        intro j; unfold Addr.add; split <;> split <;> simp_all <;> omega
      have g : ∀ j, j < 9 → W.cell? ⟨b, off + i * 9 + j, none⟩ = cs'[j]? := fun j hj => by rw [← ad j]; exact he j hj
      exact ⟨s, (g 0 (by omega)).trans h0, (g 1 (by omega)).trans h1, (g 2 (by omega)).trans h2, (g 3 (by omega)).trans h3, (g 4 (by omega)).trans h4, (g 5 (by omega)).trans h5, (g 6 (by omega)).trans h6, (g 7 (by omega)).trans h7, (g 8 (by omega)).trans h8⟩
    obtain ⟨fs, hfs⟩ := choose_sp each
    refine ⟨fs, .inr ⟨b, off, rfl, ?_, hfs⟩⟩
    exact World.block_lt_of_cell? W ⟨b, off + 0 * 9, none⟩ (hfs 0 (by omega)).1

set_option maxRecDepth 100000 in
theorem open_ordG {H : Type} {enc : TypeId × Value → H} {W : World} {base b0 : Nat} {spare : Nat → Bool} {held : Bool} {r : Reach} {v : Value} {d : DataW H} {ps : List MemPlace}
    (hval : Value.okWide Try.prog W r b0 29 v) (hd : DataW.Trod enc Try.prog W base spare held 29 v d ps) : ∃ o : Od, v = odV o := by
  obtain ⟨cs, rfl, hs⟩ := okWide_struct Try.underlying29 hval
  obtain ⟨fuel, hf⟩ := hd
  have hf' : DataW.trod enc Try.prog W base spare held fuel 29 cs.toList = some (d, ps) := by simpa [Value.cells] using hf
  obtain ⟨q, h0, h1, h2, h3, h4, h5⟩ := order_of_trodG hf'
  rw [cellsOrdG] at hs
  refine ⟨q, congrArg Value.agg ?_⟩
  apply Array.ext_getElem?
  intro i
  by_cases hi : i < 6
  · rw [← Array.getElem?_toList]
    obtain rfl | rfl | rfl | rfl | rfl | rfl : i = 0 ∨ i = 1 ∨ i = 2 ∨ i = 3 ∨ i = 4 ∨ i = 5 := by omega
    · exact h0
    · exact h1
    · exact h2
    · exact h3
    · exact h4
    · exact h5
  · rw [Array.getElem?_eq_none (by omega), Array.getElem?_eq_none (by show 6 ≤ i; omega)]

end Go.Proofs.Ytjoibdmppmpjgac

