/-
  Plain mathematics: who is down is down. Nothing here is claimed by itself.
-/
import Derived.Test.YtgcikokfgcpkfabMgG4
namespace Go.Proofs.Ytgcikokfgcpkfab
open Go.RowKit

abbrev od0 : Od := ⟨0, 0, 0, 0, 0, 0⟩
theorem inN_nat {i : Nat} (h : i < 3) : inN (i : Int) = true := by unfold inN; simp; omega
theorem step1_full {s : Gd} {i : Nat} (hi : i < 3) (h : s.d.ep = 100) : stepG s ⟨1, i, 0, od0⟩ = (s, ⟨8, 0, 0⟩) := by
  unfold stepG
  rw [if_pos rfl]
  unfold openG
  rw [if_pos (inN_nat hi), if_pos h]
theorem step1_more {s : Gd} {i : Nat} (hi : i < 3) (h : ¬ s.d.ep = 100) : stepG s ⟨1, i, 0, od0⟩ = (⟨s.now, openD s.d, upG s.ns i (openN s.d)⟩, ⟨0, 0, 0⟩) := by
  unfold stepG
  rw [if_pos rfl]
  unfold openG
  rw [if_pos (inN_nat hi), if_neg h]
  simp
theorem nodeG_nat {s : Gd} {i : Nat} (hi : i < 3) : nodeG s i = s.ns i := by
  unfold nodeG
  rw [if_pos (inN_nat hi)]
  simp
theorem orderG_some {s : Gd} {x : Sp} {n : Nd} (h : nodeG s x.n = some n) : orderG s x = askG s x x.n.toNat n := by unfold orderG; rw [h]
theorem step4 {s : Gd} {i : Nat} {n : Nd} (hi : i < 3) (hn : s.ns i = some n) : stepG s ⟨4, i, 0, od0⟩ = (⟨s.now, s.d, upG s.ns i (stopN n)⟩, ⟨0, 0, 0⟩) := by
  unfold stepG
  rw [if_neg (by show ¬ (4 : Int) = 1; decide), if_neg (by show ¬ (4 : Int) = 5; decide), if_pos (.inr (.inr rfl))]
  rw [orderG_some (x := ⟨4, i, 0, od0⟩) (n := n) (by rw [← hn]; exact nodeG_nat hi)]
  unfold askG
  rw [if_neg (by show ¬ (4 : Int) = 2; decide), if_neg (by show ¬ (4 : Int) = 3; decide)]
  simp
theorem step2_down {s : Gd} {i : Nat} {n : Nd} (hi : i < 3) (hn : s.ns i = some n) (hd : n.dn = true) (o : Od) : ∃ s', stepG s ⟨2, i, 0, o⟩ = (s', ⟨10, 0, 0⟩) := by
  unfold stepG
  rw [if_neg (by show ¬ (2 : Int) = 1; decide), if_neg (by show ¬ (2 : Int) = 5; decide), if_pos (.inl rfl)]
  rw [orderG_some (x := ⟨2, i, 0, o⟩) (n := n) (by rw [← hn]; exact nodeG_nat hi)]
  unfold askG
  rw [if_pos rfl]
  have hw := wr_down (d := s.d) (o := atO o s.now) (keep := 9) hd
  have ho := (ord_no (d := s.d) (n := n) (o := atO o s.now) (by rw [hw]; decide)).2
  rw [hw] at ho
  exact ⟨_, Prod.ext rfl ho⟩
theorem PlG.same {s s' : Gd} {x : Sp} {rs : List Rc} {t : List Int} {a : An} (h : PlG s rs t) (e : stepG s x = (s', a)) (hx : ¬ x.k = 3 ∧ (x.k = 2 → ¬ a.code = 0)) : ∃ t', PlG s' rs t' := by
  obtain ⟨rs', t', pl, tl⟩ := h.step x
  rw [e] at pl tl
  rcases tl with ⟨h1, h2, _⟩ | ⟨h1, _⟩ | ⟨rfl, _⟩
  · exact absurd h2 (hx.2 h1)
  · exact absurd h1 hx.1
  · exact ⟨t', pl⟩
theorem stops_first {s : Gd} {rs : List Rc} {t : List Int} (h : PlG s rs t) {i : Nat} (hi : i < 3) (he : ¬ s.d.ep = 100) (o : Od) :
    ∃ s1 s2 s3 t1 t3, stepG s ⟨1, i, 0, od0⟩ = (s1, ⟨0, 0, 0⟩) ∧ PlG s1 rs t1 ∧ stepG s1 ⟨4, i, 0, od0⟩ = (s2, ⟨0, 0, 0⟩) ∧ stepG s2 ⟨2, i, 0, o⟩ = (s3, ⟨10, 0, 0⟩) ∧ PlG s3 rs t3 := by
  have e1 := step1_more hi he
  have e4 := step4 (s := ⟨s.now, openD s.d, upG s.ns i (openN s.d)⟩) hi (upG_same _ _ _)
  obtain ⟨s3, e2⟩ := step2_down (s := ⟨s.now, openD s.d, upG (upG s.ns i (openN s.d)) i (stopN (openN s.d))⟩) hi (upG_same _ _ _) rfl o
  obtain ⟨t1, p1⟩ := h.same e1 ⟨by show ¬ (1 : Int) = 3; decide, fun q => absurd q (by show ¬ (1 : Int) = 2; decide)⟩
  obtain ⟨t2, p2⟩ := p1.same e4 ⟨by show ¬ (4 : Int) = 3; decide, fun q => absurd q (by show ¬ (4 : Int) = 2; decide)⟩
  obtain ⟨t3, p3⟩ := p2.same e2 ⟨by show ¬ (2 : Int) = 3; decide, fun _ => by show ¬ (10 : Int) = 0; decide⟩
  exact ⟨_, _, _, t1, t3, e1, p1, e4, e2, p3⟩
theorem stops_last {s : Gd} {rs : List Rc} {t : List Int} (h : PlG s rs t) {i : Nat} (hi : i < 3) (he : ¬ s.d.ep = 100) :
    ∃ s4 n t4, stepG s ⟨1, i, 0, od0⟩ = (s4, ⟨0, 0, 0⟩) ∧ PlG s4 rs t4 ∧ s4.ns i = some n ∧ n.dn = false ∧ n.T = behindT rs := by
  have e1 := step1_more hi he
  obtain ⟨t1, p1⟩ := h.same e1 ⟨by show ¬ (1 : Int) = 3; decide, fun q => absurd q (by show ¬ (1 : Int) = 2; decide)⟩
  refine ⟨_, openN s.d, t1, e1, p1, upG_same _ _ _, rfl, ?_⟩
  show behindT (keptL s.d.l s.d.ep) = _
  rw [h.kept]

theorem pick3 (x : Int) : ∃ i : Nat, i < 3 ∧ wrap64 ((IntKind.u64.wrap x).tmod 3) = i := by
  have h0 : 0 ≤ IntKind.u64.wrap x := by simp only [IntKind.wrap, IntKind.bits, IntKind.signed]; simp; omega
  have h1 : 0 ≤ (IntKind.u64.wrap x).tmod 3 := Int.tmod_nonneg _ h0
  have h2 : (IntKind.u64.wrap x).tmod 3 < 3 := Int.tmod_lt_of_pos _ (by omega)
  refine ⟨((IntKind.u64.wrap x).tmod 3).toNat, by omega, ?_⟩
  unfold wrap64
  omega

end Go.Proofs.Ytgcikokfgcpkfab

