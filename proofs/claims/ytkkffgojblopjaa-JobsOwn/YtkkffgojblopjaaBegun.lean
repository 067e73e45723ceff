/-
  The first asking of every law of the jobs layer ('jobsBegun') answers true. Nothing here is claimed by itself.
-/
import Derived.Test.YtkkffgojblopjaaW8
namespace Go.Proofs.Ytkkffgojblopjaa
open Go.RowKit

/-! ### The six orders, and what they come to -/
def q1 : Od := ⟨1, 0, 2, 0, 0, 0⟩
def q2 : Od := ⟨2, 0, 0, 0, 1, 5⟩
def q3 : Od := ⟨2, 0, 0, 0, 2, 5⟩
def q4 : Od := ⟨2, 5, 0, 0, 2, 5⟩
def q5 : Od := ⟨4, 5, 2, 1, 1, 0⟩
def q6 : Od := ⟨4, 6, 2, 2, 2, 0⟩
def t1 : Tb := (doT T0 q1).1
def t2 : Tb := (doT t1 q2).1
def t3 : Tb := (doT t2 q3).1
def t4 : Tb := (doT t3 q4).1
def t5 : Tb := (doT t4 q5).1
def t6 : Tb := (doT t5 q6).1
theorem a1 : (doT T0 q1).2 = ⟨0, 0, 0⟩ := by kernel_rfl
theorem a2 : (doT t1 q2).2 = ⟨0, 2, 1⟩ := by kernel_rfl
theorem a3 : (doT t2 q3).2 = ⟨5, 0, 0⟩ := by kernel_rfl
theorem a4 : (doT t3 q4).2 = ⟨0, 2, 2⟩ := by kernel_rfl
theorem a5 : (doT t4 q5).2 = ⟨6, 0, 0⟩ := by kernel_rfl
theorem a6 : (doT t5 q6).2 = ⟨0, 0, 0⟩ := by kernel_rfl
theorem j6 : t6.js 2 = ⟨3, 2, 2, 0⟩ := by kernel_rfl
theorem n6 : t6.now = 6 := by kernel_rfl
theorem i1 : Inv t1 := inv_T0.step q1
theorem i2 : Inv t2 := i1.step q2
theorem i3 : Inv t3 := i2.step q3
theorem i4 : Inv t4 := i3.step q4
theorem i5 : Inv t5 := i4.step q5

theorem do1 (b : Nat) (w : World) (h : Has 78 w b T0) : Calls Try.prog 18 #[.pointer (some ⟨b, 0, none⟩), .agg #[.int .i64 1, .int .i64 0, .int .i64 2, .int .i64 0, .int .i64 0, .int .i64 0]] w fun e w' => e = .returned (.agg #[.int .i64 0, .int .i64 0, .int .i64 0]) ∧ Has 78 w' b t1 ∧ Chg [b] w w' := by
  have := do_any b q1 T0 w h inv_T0.fit
  rw [a1] at this
  exact this
theorem do2 (b : Nat) (w : World) (h : Has 78 w b t1) : Calls Try.prog 18 #[.pointer (some ⟨b, 0, none⟩), .agg #[.int .i64 2, .int .i64 0, .int .i64 0, .int .i64 0, .int .i64 1, .int .i64 5]] w fun e w' => e = .returned (.agg #[.int .i64 0, .int .i64 2, .int .i64 1]) ∧ Has 78 w' b t2 ∧ Chg [b] w w' := by
  have := do_any b q2 t1 w h i1.fit
  rw [a2] at this
  exact this
theorem do3 (b : Nat) (w : World) (h : Has 78 w b t2) : Calls Try.prog 18 #[.pointer (some ⟨b, 0, none⟩), .agg #[.int .i64 2, .int .i64 0, .int .i64 0, .int .i64 0, .int .i64 2, .int .i64 5]] w fun e w' => e = .returned (.agg #[.int .i64 5, .int .i64 0, .int .i64 0]) ∧ Has 78 w' b t3 ∧ Chg [b] w w' := by
  have := do_any b q3 t2 w h i2.fit
  rw [a3] at this
  exact this
theorem do4 (b : Nat) (w : World) (h : Has 78 w b t3) : Calls Try.prog 18 #[.pointer (some ⟨b, 0, none⟩), .agg #[.int .i64 2, .int .i64 5, .int .i64 0, .int .i64 0, .int .i64 2, .int .i64 5]] w fun e w' => e = .returned (.agg #[.int .i64 0, .int .i64 2, .int .i64 2]) ∧ Has 78 w' b t4 ∧ Chg [b] w w' := by
  have := do_any b q4 t3 w h i3.fit
  rw [a4] at this
  exact this
theorem do5 (b : Nat) (w : World) (h : Has 78 w b t4) : Calls Try.prog 18 #[.pointer (some ⟨b, 0, none⟩), .agg #[.int .i64 4, .int .i64 5, .int .i64 2, .int .i64 1, .int .i64 1, .int .i64 0]] w fun e w' => e = .returned (.agg #[.int .i64 6, .int .i64 0, .int .i64 0]) ∧ Has 78 w' b t5 ∧ Chg [b] w w' := by
  have := do_any b q5 t4 w h i4.fit
  rw [a5] at this
  exact this
theorem do6 (b : Nat) (w : World) (h : Has 78 w b t5) : Calls Try.prog 18 #[.pointer (some ⟨b, 0, none⟩), .agg #[.int .i64 4, .int .i64 6, .int .i64 2, .int .i64 2, .int .i64 2, .int .i64 0]] w fun e w' => e = .returned (.agg #[.int .i64 0, .int .i64 0, .int .i64 0]) ∧ Has 78 w' b t6 ∧ Chg [b] w w' := by
  have := do_any b q6 t5 w h i5.fit
  rw [a6] at this
  exact this
theorem jobs2 (b : Nat) (w : World) (h : Has 78 w b t6) : Calls Try.prog 23 #[.pointer (some ⟨b, 0, none⟩), .int .i64 2] w fun e w' => e = .returned (.agg #[.int .i64 3, .int .i64 2, .int .i64 2, .int .i64 0]) ∧ Chg [] w w' := by
  have := job_in b 2 (by omega) t6 w h
  rw [j6] at this
  exact this
theorem now6 (b : Nat) (w : World) (h : Has 78 w b t6) : Calls Try.prog 24 #[.pointer (some ⟨b, 0, none⟩)] w fun e w' => e = .returned (.int .i64 6) ∧ w' = w := by
  have := now_any b t6 w h
  rw [n6] at this
  exact this
theorem chk0 (w : World) : Calls Try.prog 19 #[.agg #[.int .i64 0, .int .i64 0, .int .i64 0, .int .i64 0, .int .i64 0, .int .i64 0]] w fun e w' => e = .returned (.int .i64 1) ∧ Chg [] w w' :=
  check_any ⟨0, 0, 0, 0, 0, 0⟩ w

set_option maxHeartbeats 2000000 in
theorem begun_any (w : World) : Calls Try.prog 15 #[] w fun e w' => e = .returned (.bool true) ∧ Chg [] w w' := by
  go_enter Try.func15, Try.ntmps15
  go_wp2_with fail
  refine (new_any _).mono ?_
  rintro e w0 ⟨rfl, h0, g0⟩
  have G := g0
  have z0 := h0.lt
  go_wp2_with fail
  refine (do1 _ _ h0).mono ?_
  rintro e w1 ⟨rfl, h1, g1⟩
  have G1 := G.trans g1 (by simp)
  have z1 := h1.lt
  go_wp2_with fail
  refine (do2 _ _ (h1.alloc _)).mono ?_
  rintro e w2 ⟨rfl, h2, g2⟩
  have A := (Blk.new w1 _ _).chg g2 (by simp; omega)
  have G2 := (G1.alloc _).trans g2 (by simp)
  have z2 := h2.lt
  have zA := A.lt
  go_wp2_with fail
  refine (do3 _ _ (h2.alloc _)).mono ?_
  rintro e w3 ⟨rfl, h3, g3⟩
  have A3 := (A.alloc _).chg g3 (by simp; omega)
  have B3 := (Blk.new w2 _ _).chg g3 (by simp; omega)
  have G3 := (G2.alloc _).trans g3 (by simp)
  have z3 := h3.lt
  have zB := B3.lt
  go_wp2_with fail
  refine (do4 _ _ (h3.alloc _)).mono ?_
  rintro e w4 ⟨rfl, h4, g4⟩
  have A4 := (A3.alloc _).chg g4 (by simp; omega)
  have B4 := (B3.alloc _).chg g4 (by simp; omega)
  have C4 := (Blk.new w3 _ _).chg g4 (by simp; omega)
  have G4 := (G3.alloc _).trans g4 (by simp)
  have z4 := h4.lt
  have zC := C4.lt
  go_wp2_with fail
  refine (do5 _ _ (h4.alloc _)).mono ?_
  rintro e w5 ⟨rfl, h5, g5⟩
  have A5 := (A4.alloc _).chg g5 (by simp; omega)
  have B5 := (B4.alloc _).chg g5 (by simp; omega)
  have C5 := (C4.alloc _).chg g5 (by simp; omega)
  have D5 := (Blk.new w4 _ _).chg g5 (by simp; omega)
  have G5 := (G4.alloc _).trans g5 (by simp)
  have z5 := h5.lt
  have zD := D5.lt
  go_wp2_with fail
  refine (do6 _ _ (h5.alloc _)).mono ?_
  rintro e w6 ⟨rfl, h6, g6⟩
  have A6 := (A5.alloc _).chg g6 (by simp; omega)
  have B6 := (B5.alloc _).chg g6 (by simp; omega)
  have C6 := (C5.alloc _).chg g6 (by simp; omega)
  have D6 := (D5.alloc _).chg g6 (by simp; omega)
  have E6 := (Blk.new w5 _ _).chg g6 (by simp; omega)
  have G6 := (G5.alloc _).trans g6 (by simp)
  have z6 := h6.lt
  have zE := E6.lt
  clear A A3 A4 A5 B3 B4 B5 C4 C5 D5 g0 g1 g2 g3 g4 g5 g6 G G1 G2 G3 G4 G5
  go_wp2_with fail
  refine (own_any _ _ _ (h6.alloc _)).mono ?_
  rintro e w7 ⟨rfl, u7, g7⟩
  have h7 := (h6.alloc _).chg g7 (by simp)
  have A7 := (A6.alloc _).chg g7 (by simp)
  have B7 := (B6.alloc _).chg g7 (by simp)
  have C7 := (C6.alloc _).chg g7 (by simp)
  have D7 := (D6.alloc _).chg g7 (by simp)
  have E7 := (E6.alloc _).chg g7 (by simp)
  have F7 := (Blk.new w6 _ _).chg g7 (by simp)
  have G7 := (G6.alloc _).trans g7 (by simp)
  simp only [World.size_alloc] at u7
  obtain ⟨x0, x1, x2, _, _, _⟩ := A7.three
  obtain ⟨y0, y1, y2, _, _, _⟩ := B7.three
  have c0 := C7.three.1
  obtain ⟨v0, v1, v2, _, _, _⟩ := D7.three
  have e0 := E7.three.1
  have f0 := F7.three.1
  clear A6 B6 C6 D6 E6 g7 h6 h5 h4 h3 h2 h1 h0
  go_wp2_with fail
  refine (jobs2 _ _ h7).mono ?_
  rintro e w8 ⟨rfl, g8⟩
  have h8 := h7.chg g8 (by simp)
  have u8 := u7.chg g8 (by simp)
  have G8 := G7.trans g8 (by simp)
  go_wp2_with fail
  refine (now6 _ _ h8).mono ?_
  rintro e w9 ⟨rfl, rfl⟩
  go_wp2_with fail
  refine (jobs2 _ _ u8).mono ?_
  rintro e w10 ⟨rfl, g10⟩
  have h10 := h8.chg g10 (by simp)
  have G10 := G8.trans g10 (by simp)
  go_wp2_with fail
  refine (jobs2 _ _ h10).mono ?_
  rintro e w11 ⟨rfl, g11⟩
  have G11 := G10.trans g11 (by simp)
  go_wp2_with fail
  refine (chk0 _).mono ?_
  rintro e w12 ⟨rfl, g12⟩
  have G12 := G11.trans g12 (by simp)
  go_wp2
  go_ret
  exact ⟨rfl, G12⟩

end Go.Proofs.Ytkkffgojblopjaa
