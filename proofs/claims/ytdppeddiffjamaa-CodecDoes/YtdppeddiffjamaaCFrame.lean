/-
  How a record, and a slice of bytes, read, and what the walks are told of them. Nothing here is claimed by itself.
-/
import Derived.Test.YtdppeddiffjamaaC0
import Derived.ProofKit
import Derived.OpenShut
import Derived.ShutString
import Derived.ChangeOld
import Derived.Below
import Derived.Deep.Slices
namespace Go.Proofs.Ytdppeddiffjamaa
open Go.ChangeShapes Go.WideShapes Go.ChangeAt Go.RowKit

theorem ownC : ownKnob Try.prog.godebug = none := by kernel_rfl
theorem laidOutC : laidOutB Try.prog = true := by kernel_rfl
theorem cellsOrderC : Try.prog.cellsOf 36 = 6 := by kernel_rfl
theorem cellsRecC : Try.prog.cellsOf 48 = 7 := by kernel_rfl
theorem cellsIntC : Try.prog.cellsOf 3 = 1 := by kernel_rfl
theorem cellsU8C : Try.prog.cellsOf 5 = 1 := by kernel_rfl

theorem one_ofC {c : Value} {cs : List Value} {i : Nat} (h : (cs.drop i).take 1 = [c]) : cs[i]? = some c := by
  have h1 : (cs.drop i)[0]? = some c := by
    have := congrArg (fun l => l[0]?) h
    simpa [List.getElem?_take] using this
  simpa using h1

theorem order_of_trodC {H : Type} {enc : TypeId × Value → H} {W : World} {base : Nat} {spare : Nat → Bool} {held : Bool} {fuel : Nat} {cs : List Value} {x : DataW H × List MemPlace}
    (h : DataW.trod enc Try.prog W base spare held fuel 36 cs = some x) :
    ∃ o : Od, cs[0]? = some (.int .i64 o.k) ∧ cs[1]? = some (.int .i64 o.now) ∧ cs[2]? = some (.int .i64 o.jb) ∧ cs[3]? = some (.int .i64 o.tr) ∧ cs[4]? = some (.int .i64 o.wk) ∧ cs[5]? = some (.int .i64 o.tm) := by
  obtain ⟨xs, n, _, _, _, hxl, hf⟩ := DataW.trod_struct Try.underlying36 h
  have get : ∀ (i : Nat) (f : Field), (f.type = 3) → (f.offset = i) → i < xs.length → DataW.trod enc Try.prog W base spare held n f.type ((cs.drop f.offset).take (Try.prog.cellsOf f.type)) = xs[i]? → ∃ k, cs[i]? = some (.int .i64 k) := by
    intro i f e1 e2 hi hh
    rw [e1, e2, cellsIntC, List.getElem?_eq_getElem hi] at hh
    obtain ⟨k, hk, _, _⟩ := DataW.trod_int Try.underlying3 hh
    exact ⟨k, one_ofC hk⟩
  have hx6 : xs.length = 6 := hxl
  obtain ⟨k0, h0⟩ := get 0 _ rfl rfl (by omega) (hf 0 _ rfl)
  obtain ⟨k1, h1⟩ := get 1 _ rfl rfl (by omega) (hf 1 _ rfl)
  obtain ⟨k2, h2⟩ := get 2 _ rfl rfl (by omega) (hf 2 _ rfl)
  obtain ⟨k3, h3⟩ := get 3 _ rfl rfl (by omega) (hf 3 _ rfl)
  obtain ⟨k4, h4⟩ := get 4 _ rfl rfl (by omega) (hf 4 _ rfl)
  obtain ⟨k5, h5⟩ := get 5 _ rfl rfl (by omega) (hf 5 _ rfl)
  exact ⟨⟨k0, k1, k2, k3, k4, k5⟩, h0, h1, h2, h3, h4, h5⟩

theorem rec_of_trod {H : Type} {enc : TypeId × Value → H} {W : World} {base : Nat} {spare : Nat → Bool} {held : Bool} {fuel : Nat} {cs : List Value} {x : DataW H × List MemPlace}
    (h : DataW.trod enc Try.prog W base spare held fuel 48 cs = some x) :
    ∃ r : Rc, cs[0]? = some (.int .i64 r.ep) ∧ cs[1]? = some (.int .i64 r.o.k) ∧ cs[2]? = some (.int .i64 r.o.now) ∧ cs[3]? = some (.int .i64 r.o.jb) ∧ cs[4]? = some (.int .i64 r.o.tr) ∧ cs[5]? = some (.int .i64 r.o.wk) ∧ cs[6]? = some (.int .i64 r.o.tm) := by
  obtain ⟨xs, n, _, _, _, hxl, hf⟩ := DataW.trod_struct Try.underlying48 h
  have hx2 : xs.length = 2 := hxl
  have g0 : DataW.trod enc Try.prog W base spare held n 3 ((cs.drop 0).take (Try.prog.cellsOf 3)) = xs[0]? := hf 0 _ rfl
  rw [cellsIntC, List.getElem?_eq_getElem (by omega)] at g0
  obtain ⟨ep, hep, _, _⟩ := DataW.trod_int Try.underlying3 g0
  have g1 : DataW.trod enc Try.prog W base spare held n 36 ((cs.drop 1).take (Try.prog.cellsOf 36)) = xs[1]? := hf 1 _ rfl
  rw [cellsOrderC, List.getElem?_eq_getElem (by omega)] at g1
  obtain ⟨o, h0, h1, h2, h3, h4, h5⟩ := order_of_trodC g1
  have sh : ∀ i, i < 6 → ((cs.drop 1).take 6)[i]? = cs[i + 1]? := fun i hi => by rw [List.getElem?_take_of_lt hi, List.getElem?_drop, Nat.add_comm]
  rw [sh _ (by omega)] at h0 h1 h2 h3 h4 h5
  exact ⟨⟨ep, o⟩, one_ofC hep, h0, h1, h2, h3, h4, h5⟩

/-- A record among the arguments. -/
theorem open_rcd {H : Type} {enc : TypeId × Value → H} {W : World} {base b0 : Nat} {spare : Nat → Bool} {held : Bool} {r : Reach} {v : Value} {d : DataW H} {ps : List MemPlace}
    (hval : Value.okWide Try.prog W r b0 48 v) (hd : DataW.Trod enc Try.prog W base spare held 48 v d ps) : ∃ q : Rc, v = .agg q.cells := by
  obtain ⟨cs, rfl, hs⟩ := okWide_struct Try.underlying48 hval
  obtain ⟨fuel, hf⟩ := hd
  have hf' : DataW.trod enc Try.prog W base spare held fuel 48 cs.toList = some (d, ps) := by simpa [Value.cells] using hf
  obtain ⟨q, h0, h1, h2, h3, h4, h5, h6⟩ := rec_of_trod hf'
  rw [cellsRecC] at hs
  refine ⟨q, congrArg Value.agg ?_⟩
  apply Array.ext_getElem?
  intro i
  by_cases hi : i < 7
  · rw [← Array.getElem?_toList]
    obtain rfl | rfl | rfl | rfl | rfl | rfl | rfl : i = 0 ∨ i = 1 ∨ i = 2 ∨ i = 3 ∨ i = 4 ∨ i = 5 ∨ i = 6 := by omega
    · exact h0
    · exact h1
    · exact h2
    · exact h3
    · exact h4
    · exact h5
    · exact h6
  · rw [Array.getElem?_eq_none (by omega), Array.getElem?_eq_none (by show 7 ≤ i; omega)]

theorem u8_bd {x : Int} (h : (Lit.int .u8 x).wf = true) : 0 ≤ x ∧ x < 256 := by
  simp [Lit.wf, IntKind.min, IntKind.max, IntKind.bits, IntKind.signed] at h
  omega

theorem choose_int {n : Nat} {p : Nat → Int → Prop} (h : ∀ i, i < n → ∃ x, p i x) : ∃ f : Nat → Int, ∀ i, i < n → p i (f i) := by
  refine ⟨fun i => if hi : i < n then Classical.choose (h i hi) else 0, fun i hi => ?_⟩
  simp only [dif_pos hi]
  exact Classical.choose_spec (h i hi)

/-- Bytes among the arguments. -/
theorem byt_of_trod {H : Type} {enc : TypeId × Value → H} {W : World} {base : Nat} {spare : Nat → Bool} {held : Bool} {fuel : Nat} {a : Option Addr} {len cap : Nat} {x : DataW H × List MemPlace}
    (h : DataW.trod enc Try.prog W base spare held fuel 49 [.slice a len cap] = some x) : len ≤ cap ∧ (a = none → len = 0 ∧ cap = 0) ∧ ∃ f, Byt W a len f := by
  rcases Deep.open_slice Try.underlying49 h with ⟨hcs, _⟩ | ⟨y, len', cap', m, n, D, Pl, hcs, _, hl, _, hmm, _, hel⟩
  · simp at hcs
    exact ⟨by omega, fun _ => ⟨hcs.2.1, hcs.2.2⟩, fun _ => 0, fun i hi => by omega, .inl hcs.2.1⟩
  · simp at hcs
    obtain ⟨rfl, rfl, rfl⟩ := hcs
    refine ⟨by omega, (fun e => by simp at e), ?_⟩
    by_cases hz : len = 0
    · exact ⟨fun _ => 0, fun i hi => by omega, .inl hz⟩
    have hml : len ≤ m := by rw [hmm]; split <;> omega
    rw [cellsU8C] at hel
    obtain ⟨b, off, sp⟩ := y
    have one : ∀ i, i < len → ∃ k, W.cell? ((⟨b, off, sp⟩ : Addr).add (i * 1)) = some (.int .u8 k) ∧ 0 ≤ k ∧ k < 256 := by
      intro i hi
      obtain ⟨cs', hc, ht⟩ := hel i (by omega)
      obtain ⟨k, hk, _, hw⟩ := DataW.trod_int Try.underlying5 ht
      subst hk
      obtain ⟨_, _, he⟩ := World.cells?_some hc
      have := he 0 (by omega)
      refine ⟨k, ?_, u8_bd hw⟩
      simpa [Addr.add] using this
    have hsp : sp = none := by
      obtain ⟨k, hk, _⟩ := one 0 (by omega)
      simpa [Addr.add] using World.cell?_spot hk
    subst hsp
    obtain ⟨f, hf⟩ := choose_int one
    have ad : ∀ j, ((⟨b, off, none⟩ : Addr).add (j * 1)) = ⟨b, off + j, none⟩ := by
      intro j; unfold Addr.add; split <;> simp_all
    refine ⟨f, fun i hi => (hf i hi).2, .inr ⟨b, off, rfl, ?_, fun i hi => by rw [← ad i]; exact (hf i hi).1⟩⟩
    have := (hf 0 (by omega)).1
    exact World.block_lt_of_cell? W _ this

end Go.Proofs.Ytdppeddiffjamaa
