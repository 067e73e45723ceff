/-
  How a slice of events reads; what the walks are told of it. Nothing here is claimed by itself.
-/
import Derived.Test.YtjoibdmppmpjgacMgSP
import Derived.Test.YtjoibdmppmpjgacMgKF0
namespace Go.Proofs.Ytjoibdmppmpjgac
open Go.ChangeShapes Go.WideShapes Go.ChangeAt Go.RowKit

theorem cellsRecS : Try.prog.cellsOf 31 = 7 := by kernel_rfl
theorem cellsAnsS : Try.prog.cellsOf 33 = 3 := by kernel_rfl
theorem cellsJobS : Try.prog.cellsOf 35 = 4 := by kernel_rfl
theorem cellsEvS : Try.prog.cellsOf 37 = 14 := by kernel_rfl

theorem rec_of_trodS {H : Type} {enc : TypeId × Value → H} {W : World} {base : Nat} {spare : Nat → Bool} {held : Bool} {fuel : Nat} {cs : List Value} {x : DataW H × List MemPlace}
    (h : DataW.trod enc Try.prog W base spare held fuel 31 cs = some x) :
    ∃ r : Rc, cs[0]? = some (.int .i64 r.ep) ∧ cs[1]? = some (.int .i64 r.o.k) ∧ cs[2]? = some (.int .i64 r.o.now) ∧ cs[3]? = some (.int .i64 r.o.jb) ∧ cs[4]? = some (.int .i64 r.o.tr) ∧ cs[5]? = some (.int .i64 r.o.wk) ∧ cs[6]? = some (.int .i64 r.o.tm) := by
  obtain ⟨xs, n, _, _, _, hxl, hf⟩ := DataW.trod_struct Try.underlying31 h
  have hx2 : xs.length = 2 := hxl
  have g0 : DataW.trod enc Try.prog W base spare held n 3 ((cs.drop 0).take (Try.prog.cellsOf 3)) = xs[0]? := hf 0 _ rfl
  rw [cellsIntK, List.getElem?_eq_getElem (by omega)] at g0
  obtain ⟨k0, hk0, _, _⟩ := DataW.trod_int Try.underlying3 g0
  have g1 : DataW.trod enc Try.prog W base spare held n 29 ((cs.drop 1).take (Try.prog.cellsOf 29)) = xs[1]? := hf 1 _ rfl
  rw [cellsOrdG, List.getElem?_eq_getElem (by omega)] at g1
  obtain ⟨o, i0, i1, i2, i3, i4, i5⟩ := order_of_trodG g1
  have sh : ∀ i, i < 6 → ((cs.drop 1).take 6)[i]? = cs[i + 1]? := fun i hi => by rw [List.getElem?_take_of_lt hi, List.getElem?_drop, Nat.add_comm]
  rw [sh _ (by omega)] at i0 i1 i2 i3 i4 i5
  exact ⟨⟨k0, o⟩, one_ofK hk0, i0, i1, i2, i3, i4, i5⟩

theorem ans_of_trodS {H : Type} {enc : TypeId × Value → H} {W : World} {base : Nat} {spare : Nat → Bool} {held : Bool} {fuel : Nat} {cs : List Value} {x : DataW H × List MemPlace}
    (h : DataW.trod enc Try.prog W base spare held fuel 33 cs = some x) :
    ∃ a : An, cs[0]? = some (.int .i64 a.code) ∧ cs[1]? = some (.int .i64 a.jb) ∧ cs[2]? = some (.int .i64 a.tr) := by
  obtain ⟨xs, n, _, _, _, hxl, hf⟩ := DataW.trod_struct Try.underlying33 h
  have get : ∀ (i : Nat) (f : Field), (f.type = 3) → (f.offset = i) → i < xs.length → DataW.trod enc Try.prog W base spare held n f.type ((cs.drop f.offset).take (Try.prog.cellsOf f.type)) = xs[i]? → ∃ k, cs[i]? = some (.int .i64 k) := by
    intro i f e1 e2 hi hh
    rw [e1, e2, cellsIntK, List.getElem?_eq_getElem hi] at hh
    obtain ⟨k, hk, _, _⟩ := DataW.trod_int Try.underlying3 hh
    exact ⟨k, one_ofK hk⟩
  have hx : xs.length = 3 := hxl
  obtain ⟨k0, h0⟩ := get 0 _ rfl rfl (by omega) (hf 0 _ rfl)
  obtain ⟨k1, h1⟩ := get 1 _ rfl rfl (by omega) (hf 1 _ rfl)
  obtain ⟨k2, h2⟩ := get 2 _ rfl rfl (by omega) (hf 2 _ rfl)
  exact ⟨⟨k0, k1, k2⟩, h0, h1, h2⟩

theorem job_of_trodS {H : Type} {enc : TypeId × Value → H} {W : World} {base : Nat} {spare : Nat → Bool} {held : Bool} {fuel : Nat} {cs : List Value} {x : DataW H × List MemPlace}
    (h : DataW.trod enc Try.prog W base spare held fuel 35 cs = some x) :
    ∃ j : Jb, cs[0]? = some (.int .i64 j.st) ∧ cs[1]? = some (.int .i64 j.wk) ∧ cs[2]? = some (.int .i64 j.tr) ∧ cs[3]? = some (.int .i64 j.un) := by
  obtain ⟨xs, n, _, _, _, hxl, hf⟩ := DataW.trod_struct Try.underlying35 h
  have get : ∀ (i : Nat) (f : Field), (f.type = 3) → (f.offset = i) → i < xs.length → DataW.trod enc Try.prog W base spare held n f.type ((cs.drop f.offset).take (Try.prog.cellsOf f.type)) = xs[i]? → ∃ k, cs[i]? = some (.int .i64 k) := by
    intro i f e1 e2 hi hh
    rw [e1, e2, cellsIntK, List.getElem?_eq_getElem hi] at hh
    obtain ⟨k, hk, _, _⟩ := DataW.trod_int Try.underlying3 hh
    exact ⟨k, one_ofK hk⟩
  have hx : xs.length = 4 := hxl
  obtain ⟨k0, h0⟩ := get 0 _ rfl rfl (by omega) (hf 0 _ rfl)
  obtain ⟨k1, h1⟩ := get 1 _ rfl rfl (by omega) (hf 1 _ rfl)
  obtain ⟨k2, h2⟩ := get 2 _ rfl rfl (by omega) (hf 2 _ rfl)
  obtain ⟨k3, h3⟩ := get 3 _ rfl rfl (by omega) (hf 3 _ rfl)
  exact ⟨⟨k0, k1, k2, k3⟩, h0, h1, h2, h3⟩

theorem ev_of_trodS {H : Type} {enc : TypeId × Value → H} {W : World} {base : Nat} {spare : Nat → Bool} {held : Bool} {fuel : Nat} {cs : List Value} {x : DataW H × List MemPlace}
    (h : DataW.trod enc Try.prog W base spare held fuel 37 cs = some x) : ∃ e : Ev, ∀ (j : Nat) (u : Value), e.list[j]? = some u → cs[j]? = some u := by
  obtain ⟨xs, n, _, _, _, hxl, hf⟩ := DataW.trod_struct Try.underlying37 h
  have hx3 : xs.length = 3 := hxl
  have g0 : DataW.trod enc Try.prog W base spare held n 31 ((cs.drop 0).take (Try.prog.cellsOf 31)) = xs[0]? := hf 0 _ rfl
  rw [cellsRecS, List.getElem?_eq_getElem (by omega)] at g0
  obtain ⟨r, r0, r1, r2, r3, r4, r5, r6⟩ := rec_of_trodS g0
  have g1 : DataW.trod enc Try.prog W base spare held n 33 ((cs.drop 7).take (Try.prog.cellsOf 33)) = xs[1]? := hf 1 _ rfl
  rw [cellsAnsS, List.getElem?_eq_getElem (by omega)] at g1
  obtain ⟨a, a0, a1, a2⟩ := ans_of_trodS g1
  have g2 : DataW.trod enc Try.prog W base spare held n 35 ((cs.drop 10).take (Try.prog.cellsOf 35)) = xs[2]? := hf 2 _ rfl
  rw [cellsJobS, List.getElem?_eq_getElem (by omega)] at g2
  obtain ⟨j, j0, j1, j2, j3⟩ := job_of_trodS g2
  have sh : ∀ d m i, i < m → ((cs.drop d).take m)[i]? = cs[i + d]? := fun d m i hi => by rw [List.getElem?_take_of_lt hi, List.getElem?_drop, Nat.add_comm]
  rw [sh 0 7 _ (by omega)] at r0 r1 r2 r3 r4 r5 r6
  rw [sh 7 3 _ (by omega)] at a0 a1 a2
  rw [sh 10 4 _ (by omega)] at j0 j1 j2 j3
  refine ⟨⟨r, a, j⟩, fun i u hu => ?_⟩
  have hi : i < 14 := (List.getElem?_eq_some_iff.1 hu).1
  rw [← hu]
  obtain rfl | rfl | rfl | rfl | rfl | rfl | rfl | rfl | rfl | rfl | rfl | rfl | rfl | rfl : i = 0 ∨ i = 1 ∨ i = 2 ∨ i = 3 ∨ i = 4 ∨ i = 5 ∨ i = 6 ∨ i = 7 ∨ i = 8 ∨ i = 9 ∨ i = 10 ∨ i = 11 ∨ i = 12 ∨ i = 13 := by omega
  · exact r0
  · exact r1
  · exact r2
  · exact r3
  · exact r4
  · exact r5
  · exact r6
  · exact a0
  · exact a1
  · exact a2
  · exact j0
  · exact j1
  · exact j2
  · exact j3

theorem choose_ev {n : Nat} {p : Nat → Ev → Prop} (h : ∀ i, i < n → ∃ x, p i x) : ∃ f : Nat → Ev, ∀ i, i < n → p i (f i) := by
  refine ⟨fun i => if hi : i < n then Classical.choose (h i hi) else ev0, fun i hi => ?_⟩
  simp only [dif_pos hi]
  exact Classical.choose_spec (h i hi)

theorem evs_of_trod {H : Type} {enc : TypeId × Value → H} {W : World} {base : Nat} {spare : Nat → Bool} {held : Bool} {fuel : Nat} {a : Option Addr} {len cap : Nat} {x : DataW H × List MemPlace}
    (h : DataW.trod enc Try.prog W base spare held fuel 23 [.slice a len cap] = some x) : ∃ fs, Evs W a len fs := by
  rcases Deep.open_slice Try.underlying23 h with ⟨hcs, _⟩ | ⟨y, len', cap', m, n, D, Pl, hcs, _, hl, _, hmm, _, hel⟩
  · simp at hcs
    exact ⟨fun _ => ev0, .inl hcs.2.1⟩
  · simp at hcs
    obtain ⟨rfl, rfl, rfl⟩ := hcs
    by_cases hz : len = 0
    · exact ⟨fun _ => ev0, .inl hz⟩
    have hml : len ≤ m := by rw [hmm]; split <;> omega
    rw [cellsEvS] at hel
    obtain ⟨b, off, sp⟩ := y
    have hsp : sp = none := by
      obtain ⟨cs', hc, ht⟩ := hel 0 (by omega)
      obtain ⟨o, h0⟩ := ev_of_trodS ht
      obtain ⟨_, _, he⟩ := World.cells?_some hc
      have := he 0 (by omega)
      rw [h0 0 _ rfl] at this
      simpa [Addr.add] using World.cell?_spot this
    subst hsp
    have each : ∀ i, i < len → ∃ s, EvAt W b (off + i * 14) s := by
      intro i hi
      obtain ⟨cs', hc, ht⟩ := hel i (by omega)
      obtain ⟨s, h0⟩ := ev_of_trodS ht
      obtain ⟨_, _, he⟩ := World.cells?_some hc
      have ad : ∀ j, (((⟨b, off, none⟩ : Addr).add (i * 14)).add j) = ⟨b, off + i * 14 + j, none⟩ := by
        intro j; unfold Addr.add; split <;> split <;> simp_all <;> omega
      refine ⟨s, fun j u hu => ?_⟩
      have hj : j < 14 := (List.getElem?_eq_some_iff.1 hu).1
      rw [← ad j]
      exact (he j hj).trans (h0 j u hu)
    obtain ⟨fs, hfs⟩ := choose_ev each
    refine ⟨fs, .inr ⟨b, off, rfl, ?_, hfs⟩⟩
    exact World.block_lt_of_cell? W ⟨b, off + 0 * 14, none⟩ (hfs 0 (by omega) 0 _ rfl)

end Go.Proofs.Ytjoibdmppmpjgac

