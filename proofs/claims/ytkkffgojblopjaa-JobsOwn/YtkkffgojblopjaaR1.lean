/-
  The document's own check of an order. Nothing here is claimed by itself.
-/
import Derived.Test.YtkkffgojblopjaaW8
import Derived.Deep.Light
namespace Go.Proofs.Ytkkffgojblopjaa
open Go.RowKit

theorem ret_int {k : IntKind} {a b : Int} (h : a = b) : Ending.returned (.int k a) = .returned (.int k b) := by rw [h]

theorem chk_of (o : Od) (hk : knownB o.k = true) (F R : Prop) [Decidable F] [Decidable R] (hF : formB o (hJob o.k) (hTry o.k) (hWrk o.k) (hTrm o.k) = true ↔ F) (hR : F → (rangeB o (hTry o.k) (hTrm o.k) = true ↔ R)) :
    chk o = if F then (if R then 0 else 3) else 2 := by
  unfold chk
  rw [if_neg (by rw [hk]; decide)]
  by_cases hf : F
  · have h1 := hF.2 hf
    rw [if_neg (by rw [h1]; decide), if_pos hf]
    by_cases hr : R
    · have h2 := (hR hf).2 hr
      rw [if_neg (by rw [h2]; decide), if_pos hr]
    · have h2 : rangeB o (hTry o.k) (hTrm o.k) = false := by
        cases h3 : rangeB o (hTry o.k) (hTrm o.k)
        · rfl
        · exact absurd ((hR hf).1 h3) hr
      rw [if_pos h2, if_neg hr]
  · have h1 : formB o (hJob o.k) (hTry o.k) (hWrk o.k) (hTrm o.k) = false := by
      cases h3 : formB o (hJob o.k) (hTry o.k) (hWrk o.k) (hTrm o.k)
      · rfl
      · exact absurd (hF.1 h3) hf
    rw [if_pos h1, if_neg hf]

theorem chk_k1 (now jb tr wk tm : Int) : chk ⟨1, now, jb, tr, wk, tm⟩ = if tr = 0 ∧ wk = 0 ∧ tm = 0 then (if 0 ≤ now ∧ now ≤ 60000 ∧ 0 ≤ jb ∧ jb ≤ 5 then 0 else 3) else 2 :=
  chk_of _ rfl _ _ (by simp [formB, hJob, hTry, hWrk, hTrm]; omega) (by intro hf; simp [rangeB, inB, hTry, hTrm]; omega)

set_option maxRecDepth 100000 in
set_option maxHeartbeats 4000000 in
theorem fault_k1 (now jb tr wk tm : Int) (w : World) :
    Calls Try.prog 20 #[.agg #[.int .i64 1, .int .i64 now, .int .i64 jb, .int .i64 tr, .int .i64 wk, .int .i64 tm]] w fun e w' => e = .returned (.int .i64 (chk ⟨1, now, jb, tr, wk, tm⟩)) ∧ Chg [] w w' := by
  have HC := hide (chk_k1 now jb tr wk tm)
  generalize chk ⟨1, now, jb, tr, wk, tm⟩ = c at *
  go_enter Try.func20, Try.ntmps20
  go_wp2
  all_goals
    go_ret
    refine ⟨ret_int ?_, (Chg.refl _ _).alloc _⟩
    go_light
    rw [unhide HC]
    clear HC
    try simp only [bne_iff_ne, ne_eq, bne_eq_false_iff_eq] at *
    split <;> (try split) <;> omega

theorem chk_k2 (now jb tr wk tm : Int) : chk ⟨2, now, jb, tr, wk, tm⟩ = if jb = 0 ∧ tr = 0 then (if 0 ≤ now ∧ now ≤ 60000 ∧ 0 ≤ wk ∧ wk ≤ 3 ∧ 1 ≤ tm ∧ tm ≤ 20 then 0 else 3) else 2 :=
  chk_of _ rfl _ _ (by simp [formB, hJob, hTry, hWrk, hTrm]) (by intro hf; simp [rangeB, inB, hTry, hTrm]; omega)

set_option maxRecDepth 100000 in
set_option maxHeartbeats 4000000 in
theorem fault_k2 (now jb tr wk tm : Int) (w : World) :
    Calls Try.prog 20 #[.agg #[.int .i64 2, .int .i64 now, .int .i64 jb, .int .i64 tr, .int .i64 wk, .int .i64 tm]] w fun e w' => e = .returned (.int .i64 (chk ⟨2, now, jb, tr, wk, tm⟩)) ∧ Chg [] w w' := by
  have HC := hide (chk_k2 now jb tr wk tm)
  generalize chk ⟨2, now, jb, tr, wk, tm⟩ = c at *
  go_enter Try.func20, Try.ntmps20
  go_wp2
  all_goals
    go_ret
    refine ⟨ret_int ?_, (Chg.refl _ _).alloc _⟩
    go_light
    rw [unhide HC]
    clear HC
    try simp only [bne_iff_ne, ne_eq, bne_eq_false_iff_eq] at *
    split <;> (try split) <;> omega

theorem chk_k3 (now jb tr wk tm : Int) : chk ⟨3, now, jb, tr, wk, tm⟩ = if 0 ≤ now ∧ now ≤ 60000 ∧ 0 ≤ jb ∧ jb ≤ 5 ∧ 0 ≤ wk ∧ wk ≤ 3 ∧ 1 ≤ tr ∧ tr ≤ 3 ∧ 1 ≤ tm ∧ tm ≤ 20 then 0 else 3 :=
  (chk_of _ rfl (0 = 0) (0 ≤ now ∧ now ≤ 60000 ∧ 0 ≤ jb ∧ jb ≤ 5 ∧ 0 ≤ wk ∧ wk ≤ 3 ∧ 1 ≤ tr ∧ tr ≤ 3 ∧ 1 ≤ tm ∧ tm ≤ 20) (by simp [formB, hJob, hTry, hWrk, hTrm]) (by intro hf; simp [rangeB, inB, hTry, hTrm]; omega)).trans (if_pos rfl)

set_option maxRecDepth 100000 in
set_option maxHeartbeats 4000000 in
theorem fault_k3 (now jb tr wk tm : Int) (w : World) :
    Calls Try.prog 20 #[.agg #[.int .i64 3, .int .i64 now, .int .i64 jb, .int .i64 tr, .int .i64 wk, .int .i64 tm]] w fun e w' => e = .returned (.int .i64 (chk ⟨3, now, jb, tr, wk, tm⟩)) ∧ Chg [] w w' := by
  have HC := hide (chk_k3 now jb tr wk tm)
  generalize chk ⟨3, now, jb, tr, wk, tm⟩ = c at *
  go_enter Try.func20, Try.ntmps20
  go_wp2
  all_goals
    go_ret
    refine ⟨ret_int ?_, (Chg.refl _ _).alloc _⟩
    go_light
    rw [unhide HC]
    clear HC
    try simp only [bne_iff_ne, ne_eq, bne_eq_false_iff_eq] at *
    split <;> (try split) <;> omega

theorem chk_k4 (now jb tr wk tm : Int) : chk ⟨4, now, jb, tr, wk, tm⟩ = if tm = 0 then (if 0 ≤ now ∧ now ≤ 60000 ∧ 0 ≤ jb ∧ jb ≤ 5 ∧ 0 ≤ wk ∧ wk ≤ 3 ∧ 1 ≤ tr ∧ tr ≤ 3 then 0 else 3) else 2 :=
  chk_of _ rfl _ _ (by simp [formB, hJob, hTry, hWrk, hTrm]) (by intro hf; simp [rangeB, inB, hTry, hTrm]; omega)

set_option maxRecDepth 100000 in
set_option maxHeartbeats 4000000 in
theorem fault_k4 (now jb tr wk tm : Int) (w : World) :
    Calls Try.prog 20 #[.agg #[.int .i64 4, .int .i64 now, .int .i64 jb, .int .i64 tr, .int .i64 wk, .int .i64 tm]] w fun e w' => e = .returned (.int .i64 (chk ⟨4, now, jb, tr, wk, tm⟩)) ∧ Chg [] w w' := by
  have HC := hide (chk_k4 now jb tr wk tm)
  generalize chk ⟨4, now, jb, tr, wk, tm⟩ = c at *
  go_enter Try.func20, Try.ntmps20
  go_wp2
  all_goals
    go_ret
    refine ⟨ret_int ?_, (Chg.refl _ _).alloc _⟩
    go_light
    rw [unhide HC]
    clear HC
    try simp only [bne_iff_ne, ne_eq, bne_eq_false_iff_eq] at *
    split <;> (try split) <;> omega

theorem chk_k5 (now jb tr wk tm : Int) : chk ⟨5, now, jb, tr, wk, tm⟩ = if tm = 0 then (if 0 ≤ now ∧ now ≤ 60000 ∧ 0 ≤ jb ∧ jb ≤ 5 ∧ 0 ≤ wk ∧ wk ≤ 3 ∧ 1 ≤ tr ∧ tr ≤ 3 then 0 else 3) else 2 :=
  chk_of _ rfl _ _ (by simp [formB, hJob, hTry, hWrk, hTrm]) (by intro hf; simp [rangeB, inB, hTry, hTrm]; omega)

set_option maxRecDepth 100000 in
set_option maxHeartbeats 4000000 in
theorem fault_k5 (now jb tr wk tm : Int) (w : World) :
    Calls Try.prog 20 #[.agg #[.int .i64 5, .int .i64 now, .int .i64 jb, .int .i64 tr, .int .i64 wk, .int .i64 tm]] w fun e w' => e = .returned (.int .i64 (chk ⟨5, now, jb, tr, wk, tm⟩)) ∧ Chg [] w w' := by
  have HC := hide (chk_k5 now jb tr wk tm)
  generalize chk ⟨5, now, jb, tr, wk, tm⟩ = c at *
  go_enter Try.func20, Try.ntmps20
  go_wp2
  all_goals
    go_ret
    refine ⟨ret_int ?_, (Chg.refl _ _).alloc _⟩
    go_light
    rw [unhide HC]
    clear HC
    try simp only [bne_iff_ne, ne_eq, bne_eq_false_iff_eq] at *
    split <;> (try split) <;> omega

set_option maxRecDepth 100000 in
set_option maxHeartbeats 1000000 in
theorem fault_any (o : Od) (w : World) :
    Calls Try.prog 20 #[.agg #[.int .i64 o.k, .int .i64 o.now, .int .i64 o.jb, .int .i64 o.tr, .int .i64 o.wk, .int .i64 o.tm]] w fun e w' => e = .returned (.int .i64 (chk o)) ∧ Chg [] w w' := by
  obtain ⟨k, now, jb, tr, wk, tm⟩ := o
  by_cases h1 : k = 1
  · subst h1; exact fault_k1 now jb tr wk tm w
  by_cases h2 : k = 2
  · subst h2; exact fault_k2 now jb tr wk tm w
  by_cases h3 : k = 3
  · subst h3; exact fault_k3 now jb tr wk tm w
  by_cases h4 : k = 4
  · subst h4; exact fault_k4 now jb tr wk tm w
  by_cases h5 : k = 5
  · subst h5; exact fault_k5 now jb tr wk tm w
  have e5 : knownB k = false := by simp [knownB, inB]; omega
  have ec : chk ⟨k, now, jb, tr, wk, tm⟩ = 1 := by simp [chk, e5]
  rw [ec]
  have b1 : (k == 1) = false := by simpa using h1
  have b2 : (k == 2) = false := by simpa using h2
  have b3 : (k == 3) = false := by simpa using h3
  have b4 : (k == 4) = false := by simpa using h4
  have b5 : (k == 5) = false := by simpa using h5
  clear h1 h2 h3 h4 h5 e5 ec
  go_enter Try.func20, Try.ntmps20
  go_wp2
  go_ret
  exact ⟨rfl, (Chg.refl _ _).alloc _⟩

end Go.Proofs.Ytkkffgojblopjaa
