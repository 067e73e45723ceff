/-
  A step of a crew, whatever it is. Nothing here is claimed by itself.
-/
import Derived.Test.YtafbacijfiodhabMgHL
namespace Go.Proofs.Ytafbacijfiodhab
open Go.RowKit

theorem step_any (W0 : World) (m : Mm) (s : St) (x : Ns) (w : World) (h : Crw W0 w m s) (he : s.p.ep = s.d.ep) :
    Calls Try.prog 20 #[.pointer (some ⟨m.cb, 0, none⟩), nsV x] w fun e w' => StepPost W0 m s e w' := by
  by_cases h0 : x.d = 0
  · by_cases h1 : s.d.ep = 100
    · exact step_full W0 m s x w h he h0 h1
    · have hlt : s.d.ep < 100 := by have := h.pd.e2; omega
      by_cases h2 : s.k < 8
      · exact step_open W0 m s x w h he h0 hlt h2
      · exact step_extra W0 m s x w h he h0 hlt h2
  · by_cases hk : s.k = 0
    · exact step_none W0 m s x w h he h0 hk
    · have hk' : 0 < s.k := by omega
      by_cases h1 : x.d = 1
      · exact step_order W0 m s x w h he h1 hk'
      · by_cases h2 : x.d = 2
        · exact step_tear W0 m s x w h he h2 hk'
        · by_cases h3 : x.d = 3
          · exact step_stop W0 m s x w h he h3 hk'
          · exact step_else W0 m s x w h he ⟨h0, h1, h2, h3⟩ hk'

/-- A crew at its beginning. -/
theorem crew_start {W w' : World} {cb db pb : Nat} {v u : Value} {bs : List Int} (h1 : W.heap.size ≤ cb) (h2 : W.heap.size ≤ db)
    (B : Blk w' cb #[.pointer (some ⟨db, 0, none⟩), .pointer (some ⟨pb, 0, none⟩), .slice none 0 0, .slice none 0 0] 51) (D : Dsk 79 5 w' W.heap.size db 1 v bs) (P : Plt 83 w' pb 1 u bs) (A : Apart (fp pb u) (fp db v)) (hp : ∀ x ∈ fp pb u, W.heap.size ≤ x) (c1 : cb ∉ fp db v) (c2 : cb ∉ fp pb u) (G : Chg [] W w') :
    ∃ own, Crw W w' ⟨cb, db, pb, .slice none 0 0, .slice none 0 0, v, u, fun _ => 0, fun _ => 0, fun _ => 0, own⟩ ⟨0, ⟨1, bs⟩, ⟨1, bs⟩, fun _ => ⟨T0, 0, true⟩, fun _ => ⟨T0, 0, true⟩⟩ := by
  have pl : Pl ⟨1, bs⟩ 0 (fun _ => ⟨T0, 0, true⟩) := ⟨by show (1 : Int) ≤ 1; decide, by show (1 : Int) ≤ 100; decide, fun i hi => by omega, fun i hi => by omega, fun i j hi => by omega, fun i hi => by omega⟩
  have hd : ∀ x ∈ fp db v, W.heap.size ≤ x := D.fp_ge h2
  refine ⟨fun x => if x < W.heap.size then 100 else if x = cb then 0 else if x ∈ fp db v then 3 else 4, B, by simp, World.ownsRow_nil _ _ _ _, World.ownsRow_nil _ _ _ _, D, P, fun i hi => absurd hi (Nat.not_lt_zero _), fun i hi => absurd hi (Nat.not_lt_zero _), pl, pl, ?_, fun g hg => by simp [Value.ownBlock] at hg, fun g hg => by simp [Value.ownBlock] at hg, fun x hx => ?_, fun x hx => ?_, fun i hi => absurd hi (Nat.not_lt_zero _), fun i hi => absurd hi (Nat.not_lt_zero _), fun x hx => ?_, G⟩
  · dsimp only
    rw [if_neg (by omega), if_pos rfl]
  · dsimp only
    have := hd x hx
    rw [if_neg (by omega), if_neg (fun (e : x = cb) => c1 (e ▸ hx)), if_pos hx]
  · dsimp only
    have := hp x hx
    rw [if_neg (by omega), if_neg (fun (e : x = cb) => c2 (e ▸ hx)), if_neg (A x hx)]
  · dsimp only
    rw [if_pos hx]

end Go.Proofs.Ytafbacijfiodhab

namespace Go.Proofs.Ytafbacijfiodhab
open Go.RowKit

abbrev bo1 : Od := ⟨1, 0, 1, 0, 0, 0⟩
abbrev bo2 : Od := ⟨2, 0, 0, 0, 2, 3⟩
abbrev bo3 : Od := ⟨1, 0, 2, 0, 0, 0⟩
abbrev bo4 : Od := ⟨1, 0, 3, 0, 0, 0⟩
def bT1 : Tb := (doT T0 bo1).1
def bT2 : Tb := (doT bT1 bo2).1
def bl1 : List Int := nineL ⟨1, bo1⟩
def bl2 : List Int := bl1 ++ nineL ⟨1, bo2⟩
def bl3 : List Int := bl2 ++ tornL 2 bo4 4
theorem bserve0 : Serves 1 [] T0 := ⟨[], rfl, trivial, by simp, rfl⟩
theorem bserve1 : Serves 1 bl1 bT1 := bserve0.done (by decide) (by decide) (o := bo1) (by kernel_rfl)
theorem bserve2 : Serves 1 bl2 bT2 := bserve1.done (by decide) (by decide) (o := bo2) (by kernel_rfl)
theorem bopen0 : openD ⟨0, []⟩ = ⟨1, []⟩ ∧ openN ⟨0, []⟩ = ⟨T0, 1, false⟩ := by
  have h : Serves 0 [] T0 := ⟨[], rfl, trivial, by simp, rfl⟩
  obtain ⟨h1, h2⟩ := h.again (t := []) (by simp)
  unfold openD openN
  rw [List.nil_append] at h1 h2
  dsimp only
  rw [h1, h2]
  exact ⟨rfl, rfl⟩
theorem bopen2 : openD ⟨1, bl2⟩ = ⟨2, bl2⟩ ∧ openN ⟨1, bl2⟩ = ⟨bT2, 2, false⟩ := by
  obtain ⟨h1, h2⟩ := bserve2.again (t := []) (by simp)
  unfold openD openN
  rw [List.append_nil] at h1 h2
  dsimp only
  rw [h1, h2]
  exact ⟨rfl, rfl⟩
theorem be1 : ordA ⟨1, []⟩ ⟨T0, 1, false⟩ bo1 = ⟨0, 0, 0⟩ ∧ ordN ⟨1, []⟩ ⟨T0, 1, false⟩ bo1 = ⟨bT1, 1, false⟩ ∧ (wrD ⟨1, []⟩ ⟨T0, 1, false⟩ bo1 9).l = bl1 := ⟨by kernel_rfl, by kernel_rfl, by kernel_rfl⟩
theorem be2 : ordA ⟨1, bl1⟩ ⟨bT1, 1, false⟩ bo2 = ⟨0, 1, 1⟩ ∧ ordN ⟨1, bl1⟩ ⟨bT1, 1, false⟩ bo2 = ⟨bT2, 1, false⟩ ∧ (wrD ⟨1, bl1⟩ ⟨bT1, 1, false⟩ bo2 9).l = bl2 := ⟨by kernel_rfl, by kernel_rfl, by kernel_rfl⟩
theorem be3 : ordA ⟨2, bl2⟩ ⟨bT2, 1, false⟩ bo3 = ⟨9, 0, 0⟩ ∧ ordN ⟨2, bl2⟩ ⟨bT2, 1, false⟩ bo3 = ⟨bT2, 1, true⟩ ∧ (wrD ⟨2, bl2⟩ ⟨bT2, 1, false⟩ bo3 9).l = bl2 := ⟨by kernel_rfl, by kernel_rfl, by kernel_rfl⟩
theorem be4 : wrC ⟨2, bl2⟩ ⟨bT2, 2, false⟩ bo4 4 = 0 ∧ tearN ⟨2, bl2⟩ ⟨bT2, 2, false⟩ bo4 4 = ⟨bT2, 2, true⟩ ∧ (wrD ⟨2, bl2⟩ ⟨bT2, 2, false⟩ bo4 4).l = bl3 := ⟨by kernel_rfl, by kernel_rfl, by kernel_rfl⟩
theorem be5 : jobA bT2 1 = ⟨2, 2, 1, 3⟩ ∧ jobA bT2 3 = ⟨0, 0, 0, 0⟩ ∧ bl3.length = 22 := ⟨by kernel_rfl, by kernel_rfl, by kernel_rfl⟩
theorem bi1 : Inv bT1 := inv_T0.step bo1
theorem bi2 : Inv bT2 := bi1.step bo2
theorem fp_nxt {w : World} {db x : Nat} {v v' : Value} (h : x ∉ fp db v) (nx : Nxt w v v') (hx : x < w.heap.size) : x ∉ fp db v' := fun hf => by
  rcases mem_fp.1 hf with e | e
  · exact h (mem_fp.2 (.inl e))
  · rcases nx.pnx x e with e1 | e1
    · exact h (mem_fp.2 (.inr e1))
    · omega

set_option maxRecDepth 100000 in
set_option maxHeartbeats 4000000 in
theorem nbegun_any (w : World) : Calls Try.prog 18 #[] w fun e w' => e = .returned (.bool true) ∧ Chg [] w w' := by
  have hfld : ∀ (W : World) (a b c d : Int), (Instr.field 67 (.agg #[.int .i64 a, .int .i64 b, .int .i64 c, .int .i64 d]) 0).run Try.prog W = .ok (.int .i64 a) W := fun W a b c d => by kernel_rfl
  go_enter Try.func18, Try.ntmps18
  go_wp2_with fail
  refine (dnew_any _).mono ?_
  rintro e w1 ⟨rfl, D1, G1⟩
  have z1 := D1.blk.lt
  go_wp2_with fail
  refine (nopen_more w.heap.size w.heap.size ⟨0, []⟩ _ _ D1 (by decide) (by decide)).mono ?_
  rintro e w2 ⟨nb, tb, v2, rfl, hn2, ht2, N2, D2, f2, t2, g2, -⟩
  rw [bopen0.2] at N2
  rw [bopen0.1] at D2
  have G2 := G1.trans g2 (fun x hx => .inr (D1.fp_ge (Nat.le_refl _) x hx))
  have z2 := g2.size
  have l2 := N2.lt
  clear g2 D1 G1
  go_wp2_with fail
  refine (nord_all nb tb w.heap.size w.heap.size ⟨T0, 1, false⟩ ⟨1, []⟩ v2 bo1 _ N2 D2 inv_T0 (by omega) (by decide) (by decide) f2 t2).mono ?_
  rintro e w3 ⟨rfl, v3, N3, D3, g3, n3⟩
  rw [be1.1]
  rw [be1.2.1] at N3
  rw [be1.2.2] at D3
  have f3 := fp_nxt f2 n3 l2.1
  have t3 := fp_nxt t2 n3 l2.2
  have G3 := G2.trans g3 (fun x hx => .inr (by rcases List.mem_cons.1 hx with e | e; omega; rcases List.mem_cons.1 e with e | e; omega; exact D2.fp_ge (Nat.le_refl _) x e))
  have z3 := g3.size
  clear g3 n3 N2 D2 G2 f2 t2 l2
  unfold ansV
  go_wp2_with fail
  have fa3 : w3.heap.size ∉ fp w.heap.size v3 := fun hf => absurd (D3.fp_lt _ hf) (by omega)
  have l3 := N3.lt
  have A1 := Blk.new w3 #[.int .i64 0, .int .i64 0, .int .i64 0] 56
  replace N3 := N3.alloc (.cells #[.int .i64 0, .int .i64 0, .int .i64 0] 56)
  replace D3 := D3.alloc (.cells #[.int .i64 0, .int .i64 0, .int .i64 0] 56)
  replace G3 := G3.alloc (.cells #[.int .i64 0, .int .i64 0, .int .i64 0] 56)
  have s3 : (w3.alloc (.cells #[.int .i64 0, .int .i64 0, .int .i64 0] 56)).heap.size = w3.heap.size + 1 := by simp
  refine (nord_all nb tb w.heap.size w.heap.size ⟨bT1, 1, false⟩ ⟨1, bl1⟩ v3 bo2 _ N3 D3 bi1 (by omega) (by decide) (by decide) f3 t3).mono ?_
  rintro e w4 ⟨rfl, v4, N4, D4, g4, n4⟩
  rw [be2.1]
  rw [be2.2.1] at N4
  rw [be2.2.2] at D4
  have f4 := fp_nxt f3 n4 (by omega)
  have t4 := fp_nxt t3 n4 (by omega)
  have a4 := fp_nxt fa3 n4 (by omega)
  replace A1 := A1.chg g4 (by simp only [List.mem_cons, not_or]; exact ⟨by omega, by omega, fa3⟩)
  have G4 := G3.trans g4 (fun x hx => .inr (by rcases List.mem_cons.1 hx with e | e; omega; rcases List.mem_cons.1 e with e | e; omega; exact D3.fp_ge (Nat.le_refl _) x e))
  have z4 := g4.size
  clear g4 n4 N3 D3 G3 f3 t3 fa3
  unfold ansV
  go_wp2_with fail
  have b4 : w4.heap.size ∉ fp w.heap.size v4 := fun hf => absurd (D4.fp_lt _ hf) (by omega)
  have A2 := Blk.new w4 #[.int .i64 0, .int .i64 1, .int .i64 1] 56
  replace A1 := A1.alloc (.cells #[.int .i64 0, .int .i64 1, .int .i64 1] 56)
  replace N4 := N4.alloc (.cells #[.int .i64 0, .int .i64 1, .int .i64 1] 56)
  replace D4 := D4.alloc (.cells #[.int .i64 0, .int .i64 1, .int .i64 1] 56)
  replace G4 := G4.alloc (.cells #[.int .i64 0, .int .i64 1, .int .i64 1] 56)
  have s4 : (w4.alloc (.cells #[.int .i64 0, .int .i64 1, .int .i64 1] 56)).heap.size = w4.heap.size + 1 := by simp
  refine (nopen_more w.heap.size w.heap.size ⟨1, bl2⟩ _ _ D4 (by decide) (by decide)).mono ?_
  rintro e w5 ⟨mb, ub, v5, rfl, hm5, hu5, M5, D5, q5, r5, g5, n5⟩
  rw [bopen2.2] at M5
  rw [bopen2.1] at D5
  have f5 := fp_nxt f4 n5 (by omega)
  have t5 := fp_nxt t4 n5 (by omega)
  have a5 := fp_nxt a4 n5 (by omega)
  have b5 := fp_nxt b4 n5 (by omega)
  have N5 := N4.chg g5 f4 t4
  replace A1 := A1.chg g5 a4
  replace A2 := A2.chg g5 b4
  have G5 := G4.trans g5 (fun x hx => .inr (D4.fp_ge (Nat.le_refl _) x hx))
  have z5 := g5.size
  have l5 := M5.lt
  clear g5 n5 N4 D4 G4 f4 t4 a4 b4
  go_wp2_with fail
  refine (nord_all nb tb w.heap.size w.heap.size ⟨bT2, 1, false⟩ ⟨2, bl2⟩ v5 bo3 _ N5 D5 bi2 (by omega) (by decide) (by decide) f5 t5).mono ?_
  rintro e w6 ⟨rfl, v6, N6, D6, g6, n6⟩
  rw [be3.1]
  rw [be3.2.1] at N6
  rw [be3.2.2] at D6
  have f6 := fp_nxt f5 n6 (by omega)
  have t6 := fp_nxt t5 n6 (by omega)
  have a6 := fp_nxt a5 n6 (by omega)
  have b6 := fp_nxt b5 n6 (by omega)
  have q6 := fp_nxt q5 n6 (by omega)
  have r6 := fp_nxt r5 n6 (by omega)
  have M6 := M5.chg g6 (by simp only [List.mem_cons, not_or]; exact ⟨by omega, by omega, q5⟩) (by simp only [List.mem_cons, not_or]; exact ⟨by omega, by omega, r5⟩)
  replace A1 := A1.chg g6 (by simp only [List.mem_cons, not_or]; exact ⟨by omega, by omega, a5⟩)
  replace A2 := A2.chg g6 (by simp only [List.mem_cons, not_or]; exact ⟨by omega, by omega, b5⟩)
  have G6 := G5.trans g6 (fun x hx => .inr (by rcases List.mem_cons.1 hx with e | e; omega; rcases List.mem_cons.1 e with e | e; omega; exact D5.fp_ge (Nat.le_refl _) x e))
  have z6 := g6.size
  clear g6 n6 N5 D5 G5 f5 t5 a5 b5 M5 q5 r5
  unfold ansV
  go_wp2_with fail
  have c6 : w6.heap.size ∉ fp w.heap.size v6 := fun hf => absurd (D6.fp_lt _ hf) (by omega)
  have A3 := Blk.new w6 #[.int .i64 9, .int .i64 0, .int .i64 0] 56
  replace A1 := A1.alloc (.cells #[.int .i64 9, .int .i64 0, .int .i64 0] 56)
  replace A2 := A2.alloc (.cells #[.int .i64 9, .int .i64 0, .int .i64 0] 56)
  replace N6 := N6.alloc (.cells #[.int .i64 9, .int .i64 0, .int .i64 0] 56)
  replace M6 := M6.alloc (.cells #[.int .i64 9, .int .i64 0, .int .i64 0] 56)
  replace D6 := D6.alloc (.cells #[.int .i64 9, .int .i64 0, .int .i64 0] 56)
  replace G6 := G6.alloc (.cells #[.int .i64 9, .int .i64 0, .int .i64 0] 56)
  have s6 : (w6.alloc (.cells #[.int .i64 9, .int .i64 0, .int .i64 0] 56)).heap.size = w6.heap.size + 1 := by simp
  refine (ntear_all mb ub w.heap.size w.heap.size ⟨bT2, 2, false⟩ ⟨2, bl2⟩ v6 bo4 4 _ M6 D6 bi2 (by omega) (by decide) (by decide) q6 r6).mono ?_
  rintro e w7 ⟨rfl, v7, M7, D7, g7, n7⟩
  rw [be4.1]
  rw [be4.2.1] at M7
  rw [be4.2.2] at D7
  have N7 := N6.chg g7 (by simp only [List.mem_cons, not_or]; exact ⟨by omega, by omega, f6⟩) (by simp only [List.mem_cons, not_or]; exact ⟨by omega, by omega, t6⟩)
  replace A1 := A1.chg g7 (by simp only [List.mem_cons, not_or]; exact ⟨by omega, by omega, a6⟩)
  replace A2 := A2.chg g7 (by simp only [List.mem_cons, not_or]; exact ⟨by omega, by omega, b6⟩)
  replace A3 := A3.chg g7 (by simp only [List.mem_cons, not_or]; exact ⟨by omega, by omega, c6⟩)
  have G7 := G6.trans g7 (fun x hx => .inr (by rcases List.mem_cons.1 hx with e | e; omega; rcases List.mem_cons.1 e with e | e; omega; exact D6.fp_ge (Nat.le_refl _) x e))
  clear g7 n7 N6 D6 G6 M6 f6 t6 a6 b6 c6 q6 r6
  obtain ⟨x0, x1, x2, -, -, -⟩ := A1.three
  obtain ⟨y0, y1, y2, -, -, -⟩ := A2.three
  obtain ⟨u0, -, -, -, -, -⟩ := A3.three
  obtain ⟨m0, -, -, -, lm, -⟩ := M7.cells
  have la1 := A1.lt
  have la2 := A2.lt
  have la3 := A3.lt
  clear A1 A2 A3
  go_wp2_with fail
  refine (nopen_nil _).mono ?_
  rintro e w7 ⟨rfl, rfl⟩
  go_wp2_with fail
  refine (ndown_any nb tb _ _ _ N7).mono ?_
  rintro e w7 ⟨rfl, rfl⟩
  go_wp2_with fail
  refine (ndown_any mb ub _ _ _ M7).mono ?_
  rintro e w7 ⟨rfl, rfl⟩
  go_wp2_with fail
  refine (job_all ub 1 bT2 _ M7.2).mono ?_
  rintro e w8 ⟨rfl, g8⟩
  rw [be5.1]
  have M8 := M7.chg g8 (by simp) (by simp)
  have D8 := D7.chg g8 (by simp)
  have G8 := G7.trans g8 (by simp)
  obtain ⟨m0', -, -, -, lm', -⟩ := M8.cells
  clear g8 M7 D7 G7 m0 lm x0 x1 x2 y0 y1 y2 u0
  go_wp2_with fail
  refine (job_all ub 3 bT2 _ M8.2).mono ?_
  rintro e w9 ⟨rfl, g9⟩
  rw [be5.2.1]
  have M9 := M8.chg g9 (by simp) (by simp)
  have D9 := D8.chg g9 (by simp)
  have G9 := G8.trans g9 (by simp)
  clear g9 M8 D8 G8 m0' lm'
  go_wp2_with fail
  refine (nepoch_any mb ub _ _ _ M9).mono ?_
  rintro e w9 ⟨rfl, rfl⟩
  go_wp2_with fail
  refine (dbytes_any w.heap.size 2 _ bl3 _ _ D9).mono ?_
  rintro e w10 ⟨v10, rfl, own10, g10⟩
  have hown := own_form own10
  rw [be5.2.2] at hown
  have G10 := G9.trans g10 (by simp)
  clear g10 own10
  rcases hown with ⟨rfl, h0⟩ | ⟨gb, cb, rfl, -⟩
  · exact absurd (congrArg List.length h0) (by rw [be5.2.2]; decide)
  · go_wp2
    go_ret
    exact ⟨rfl, G10⟩

end Go.Proofs.Ytafbacijfiodhab

