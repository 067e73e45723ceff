/-
  Plain mathematics: no try is given twice by a guild. Nothing here is claimed by itself.
-/
import Derived.Test.YtgcikokfgcpkfabMgG4
namespace Go.Proofs.Ytgcikokfgcpkfab
open Go.RowKit

def setG (f : Nat → Int) (n : Nat) (x : Int) : Nat → Int := fun m => if m = n then x else f m
def IntsG (t : TypeId) (w : World) (b : Nat) (f : Nat → Int) : Prop := Blk w b #[.int .i64 (f 0), .int .i64 (f 1), .int .i64 (f 2), .int .i64 (f 3), .int .i64 (f 4), .int .i64 (f 5)] t
theorem IntsG.c {t : TypeId} {w : World} {b : Nat} {f : Nat → Int} (h : IntsG t w b f) {n : Nat} (hn : n < 6) : w.cell? ⟨b, n, none⟩ = some (.int .i64 (f n)) := by
  rw [Blk.cell h]
  rcases six hn with rfl | rfl | rfl | rfl | rfl | rfl <;> rfl
theorem IntsG.set {t : TypeId} {w : World} {b : Nat} {f : Nat → Int} (h : IntsG t w b f) {n : Nat} (hn : n < 6) (x : Int) : IntsG t (w.setCell ⟨b, n, none⟩ (.int .i64 x)) b (setG f n x) := by
  have := Blk.set h n (.int .i64 x)
  have e : (#[Value.int .i64 (f 0), .int .i64 (f 1), .int .i64 (f 2), .int .i64 (f 3), .int .i64 (f 4), .int .i64 (f 5)]).setIfInBounds n (.int .i64 x) = #[.int .i64 (setG f n x 0), .int .i64 (setG f n x 1), .int .i64 (setG f n x 2), .int .i64 (setG f n x 3), .int .i64 (setG f n x 4), .int .i64 (setG f n x 5)] := by rcases six hn with rfl | rfl | rfl | rfl | rfl | rfl <;> rfl
  rw [e] at this
  exact this

theorem IntsG.drewN {t : TypeId} {w : World} {b : Nat} {f : Nat → Int} (h : IntsG t w b f) (n : Nat) : IntsG t (w.drewN n) b f := h
theorem IntsG.alloc {t : TypeId} {w : World} {b : Nat} {f : Nat → Int} (h : IntsG t w b f) (o : Obj) : IntsG t (w.alloc o) b f := Blk.alloc h o
theorem IntsG.other {t : TypeId} {w : World} {b : Nat} {f : Nat → Int} (h : IntsG t w b f) {p : Addr} (hp : p.block ≠ b) (v : Value) : IntsG t (w.setCell p v) b f := Blk.other h hp v

theorem ageG_held {m : Int} {j : Jb} (h : (ageJ m j).st = 2) : ageJ m j = j := by
  unfold ageJ at h ⊢
  by_cases e : j.st = 2 ∧ j.un ≤ m
  · rw [if_pos e, relJ_st] at h; split at h <;> omega
  · rw [if_neg e]
theorem ageG_done {m : Int} {j : Jb} (h : j.st = 3) : (ageJ m j).st = 3 := by
  unfold ageJ
  rw [if_neg (by omega)]
  exact h

def Tri1 (j : Jb) (tr wk dn : Int) : Prop := 0 ≤ tr ∧ tr ≤ j.tr ∧ (dn = 0 ∨ dn = 1) ∧ (dn = 1 → j.st = 3) ∧ (j.st = 2 → tr = j.tr → wk = j.wk)
def Tri (T : Tb) (tr wk dn : Nat → Int) : Prop := ∀ k, k < 6 → Tri1 (T.js k) (tr k) (wk k) (dn k)
theorem tri_0 : Tri T0 (fun _ => 0) (fun _ => 0) (fun _ => 0) := fun k _ => ⟨by show (0 : Int) ≤ 0; decide, by show (0 : Int) ≤ 0; decide, .inl rfl, fun h => by simp at h, fun h => by simp [T0] at h⟩
theorem Tri1.age {j : Jb} {tr wk dn m : Int} (h : Tri1 j tr wk dn) : Tri1 (ageJ m j) tr wk dn := by
  obtain ⟨h1, h2, h3, h4, h5⟩ := h
  refine ⟨h1, by rw [ageJ_tr]; exact h2, h3, fun e => ageG_done (h4 e), fun e e' => ?_⟩
  have q := ageG_held e
  rw [q] at e e' ⊢
  exact h5 e e'

theorem tri_keep {T : Tb} {tr wk dn : Nat → Int} (hI : Inv T) (h : Tri T tr wk dn) (o : Od) : Tri (doT T o).1 tr wk dn := by
  rcases do_step T o with ⟨_, _, _, e⟩ | ⟨hz, hc, hnow, n, hn, hoth, _, hst⟩
  · rw [e]; exact h
  intro k hk
  by_cases e : k = n
  · subst e
    obtain ⟨h1, h2, h3, h4, h5⟩ := (h k hk).age (m := max T.now o.now)
    have hage := jinv_age (hI.2.2 k hk) (show T.now ≤ max T.now o.now by omega)
    generalize ageJ (max T.now o.now) (T.js k) = p at *
    rcases hst with ⟨a1, a2, a3, a4, a5⟩ | ⟨a1, a2, a3, a4⟩ | ⟨a1, a2, a3, a4, a5, a6, a7⟩ | ⟨a1, a2, a3, a4, a5, a6, a7⟩ | ⟨a1, a2, a3, a4, a5, a6, a7⟩
    · rw [a4]; exact ⟨h1, by unfold JInv at hage; show tr k ≤ 0; omega, h3, fun e => absurd (h4 e) (by omega), fun e => by simp at e⟩
    · rw [a3]; exact ⟨h1, by show tr k ≤ p.tr + 1; omega, h3, fun e => absurd (h4 e) (by omega), fun _ e => by have e' : tr k = p.tr + 1 := e; omega⟩
    · rw [a6]; exact ⟨h1, h2, h3, fun e => absurd (h4 e) (by omega), fun _ e => h5 a3 e⟩
    · rw [a6]; exact ⟨h1, h2, h3, fun _ => rfl, fun e => by simp at e⟩
    · rw [a6]; exact ⟨h1, h2, h3, fun e => absurd (h4 e) (by omega), fun e => by rw [relJ_st] at e; split at e <;> omega⟩
  · rw [hoth k hk e]
    exact (h k hk).age

theorem tri_take {T : Tb} {tr wk dn : Nat → Int} (hI : Inv T) (h : Tri T tr wk dn) (o : Od) (hk : o.k = 2) (hz : (doT T o).2.code = 0) :
    ∃ (n : Nat) (y : Int), n < 6 ∧ (doT T o).2 = ⟨0, n, y⟩ ∧ tr n < y ∧ y ≤ 3 ∧ dn n = 0 ∧ Tri (doT T o).1 (setG tr n y) (setG wk n o.wk) dn := by
  have hK := tri_keep hI h o
  have hI' := hI.step o
  rcases do_step T o with ⟨hc, _⟩ | ⟨_, hc, hnow, n, hn, hoth, _, hst⟩
  · exact absurd hz hc
  obtain ⟨h1, h2, h3, h4, h5⟩ := (h n hn).age (m := max T.now o.now)
  rcases hst with ⟨a1, _⟩ | ⟨a1, a2, a3, a4⟩ | ⟨a1, _⟩ | ⟨a1, _⟩ | ⟨a1, _⟩ <;> try omega
  have hj := hI'.2.2 n hn
  rw [a3] at hj
  refine ⟨n, (ageJ (max T.now o.now) (T.js n)).tr + 1, hn, a4, by omega, by unfold JInv at hj; simp only at hj; omega, ?_, fun k hk => ?_⟩
  · rcases h3 with e | e
    · exact e
    · exact absurd (h4 e) (by omega)
  · obtain ⟨k1, k2, k3, k4, k5⟩ := hK k hk
    by_cases e : k = n
    · subst e
      rw [a3] at k4 ⊢
      refine ⟨by simp [setG]; omega, by simp [setG], k3, k4, fun _ _ => by simp [setG]⟩
    · simp only [setG, if_neg e]
      exact ⟨k1, k2, k3, k4, k5⟩
theorem tri_done {T : Tb} {tr wk dn : Nat → Int} (hI : Inv T) (h : Tri T tr wk dn) (o : Od) (hk : o.k = 4) (hz : (doT T o).2.code = 0) :
    ∃ n : Nat, n < 6 ∧ o.jb = n ∧ dn n = 0 ∧ tr n ≤ o.tr ∧ (o.tr = tr n → o.wk = wk n) ∧ Tri (doT T o).1 tr wk (setG dn n 1) := by
  have hK := tri_keep hI h o
  rcases do_step T o with ⟨hc, _⟩ | ⟨_, hc, hnow, n, hn, hoth, _, hst⟩
  · exact absurd hz hc
  obtain ⟨h1, h2, h3, h4, h5⟩ := (h n hn).age (m := max T.now o.now)
  rcases hst with ⟨a1, _⟩ | ⟨a1, _⟩ | ⟨a1, _⟩ | ⟨a1, a2, a3, a4, a5, a6, a7⟩ | ⟨a1, _⟩ <;> try omega
  refine ⟨n, hn, a2, ?_, by omega, fun e => ?_, fun k hk => ?_⟩
  · rcases h3 with e | e
    · exact e
    · exact absurd (h4 e) (by omega)
  · rw [h5 a3 (by omega), a4]
  · obtain ⟨k1, k2, k3, k4, k5⟩ := hK k hk
    by_cases e : k = n
    · subst e
      refine ⟨k1, k2, .inr (by simp [setG]), fun _ => by rw [a6], k5⟩
    · simp only [setG, if_neg e]
      exact ⟨k1, k2, k3, k4, k5⟩

end Go.Proofs.Ytgcikokfgcpkfab

