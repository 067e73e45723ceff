/-
  The laws' first look at the codec, codecBegun. Nothing here is claimed by itself.
-/
import Derived.Test.YtdppeddiffjamaaC5
import Derived.Laws.BytesArg
namespace Go.Proofs.Ytdppeddiffjamaa
open Go.RowKit

theorem own_shape {w : World} {base : Nat} {e : TypeId} {size : Nat} {v : Value} {n : Nat} {xs : List Value} (h : w.ownsRow base e size v n xs) (hn : 0 < n) : ∃ g c, v = .slice (some ⟨g, 0, none⟩) n c ∧ n ≤ c ∧ base ≤ g ∧ g < w.heap.size := by
  have hl := h.lt
  obtain ⟨_, ⟨_, h0⟩ | ⟨g, c, cur, e1, hb, _, hc, _⟩⟩ := h
  · omega
  · exact ⟨g, c, e1, hc, hb, (hl g (by rw [e1]; rfl)).2⟩

def strB (n : Nat) (f : Nat → Int) : ByteArray := strOfNums ((List.range n).map f)
theorem Byt.str {w : World} {b off n cap : Nat} {f : Nat → Int} (hc : ∀ i, i < n → w.cell? ⟨b, off + i, none⟩ = some (.int .u8 (f i))) :
    (convert 49 9 (.slice (some ⟨b, off, none⟩) n cap)).run Try.prog w = .ok (.string (strB n f)) w := by
  refine run_convert_bytes_arg w 49 5 Try.underlying49 Try.underlying5 b off n cap ((List.range n).map f) (by simp) (fun i hi => ?_) 9 Try.underlying9
  rw [hc i hi]
  simp [List.getD, hi]

def nine (r : Rc) : List Value := [.int .u8 (by9 r 0), .int .u8 (by9 r 1), .int .u8 (by9 r 2), .int .u8 (by9 r 3), .int .u8 (by9 r 4), .int .u8 (by9 r 5), .int .u8 (by9 r 6), .int .u8 (by9 r 7), .int .u8 (by9 r 8)]
theorem nine_at (r : Rc) (i : Nat) (hi : i < 9) : (nine r)[i]? = some (.int .u8 (by9 r i)) := by
  obtain rfl | rfl | rfl | rfl | rfl | rfl | rfl | rfl | rfl : i = 0 ∨ i = 1 ∨ i = 2 ∨ i = 3 ∨ i = 4 ∨ i = 5 ∨ i = 6 ∨ i = 7 ∨ i = 8 := by omega
  all_goals rfl
theorem nine_cell {w : World} {g : Nat} {r : Rc} {t : TypeId} (h : Blk w g #[.int .u8 (by9 r 0), .int .u8 (by9 r 1), .int .u8 (by9 r 2), .int .u8 (by9 r 3), .int .u8 (by9 r 4), .int .u8 (by9 r 5), .int .u8 (by9 r 6), .int .u8 (by9 r 7), .int .u8 (by9 r 8)] t) (i : Nat) (hi : i < 9) :
    w.cell? ⟨g, 0 + i, none⟩ = some (.int .u8 (by9 r i)) := by
  rw [Nat.zero_add, h.cell]
  obtain rfl | rfl | rfl | rfl | rfl | rfl | rfl | rfl | rfl : i = 0 ∨ i = 1 ∨ i = 2 ∨ i = 3 ∨ i = 4 ∨ i = 5 ∨ i = 6 ∨ i = 7 ∨ i = 8 := by omega
  all_goals rfl
theorem nine_len (r : Rc) : (nine r).length = 9 := rfl
theorem nine_one (r : Rc) : ∀ u ∈ nine r, u.oneCell' = true := by simp [nine, Value.oneCell']
theorem Blk.seven {w : World} {b : Nat} {r : Rc} {t : TypeId} (h : Blk w b r.cells t) :
    w.cell? ⟨b, 0, none⟩ = some (.int .i64 r.ep) ∧ w.cell? ⟨b, 1, none⟩ = some (.int .i64 r.o.k) ∧ w.cell? ⟨b, 2, none⟩ = some (.int .i64 r.o.now) ∧ w.cell? ⟨b, 3, none⟩ = some (.int .i64 r.o.jb) ∧ w.cell? ⟨b, 4, none⟩ = some (.int .i64 r.o.tr) ∧ w.cell? ⟨b, 5, none⟩ = some (.int .i64 r.o.wk) ∧ w.cell? ⟨b, 6, none⟩ = some (.int .i64 r.o.tm) :=
  ⟨h.cell 0, h.cell 1, h.cell 2, h.cell 3, h.cell 4, h.cell 5, h.cell 6⟩

def rB : Rc := ⟨3, ⟨2, 258, 0, 0, 1, 7⟩⟩
theorem rB_ck : ckR rB = 0 := by decide
theorem rB_str : strB 9 (by9 rB) = ⟨#[3, 2, 1, 2, 0, 0, 1, 7, 82]⟩ := by decide
def fB1 (i : Nat) : Int := if i < 9 then by9 rB i else 9
def fB2 (i : Nat) : Int := if i < 9 then by9 rB i else by9 rB (i - 9)
theorem fB1_dec : dec 10 fB1 = (rB, 0) := dec_by rB_ck (by omega) (fun i hi => by simp [fB1, hi])
theorem fB1_bd (i : Nat) (_ : i < 10) : 0 ≤ fB1 i ∧ fB1 i < 256 := by
  unfold fB1; split
  · exact by9_bd rB_ck i
  · omega
theorem fB2_bd (i : Nat) (_ : i < 18) : 0 ≤ fB2 i ∧ fB2 i < 256 := by
  unfold fB2; split
  · exact by9_bd rB_ck i
  · exact by9_bd rB_ck _
theorem fB2_all : allR 18 fB2 = [rB, rB] := by
  have e1 : dec 18 fB2 = (rB, 0) := dec_by rB_ck (by omega) (fun i hi => by simp [fB2, hi])
  have e2 : dec 9 (fun i => fB2 (i + 9)) = (rB, 0) := dec_by rB_ck (by omega) (fun i hi => by simp only [fB2]; rw [if_neg (by omega), Nat.add_sub_cancel])
  have e3 : ∀ f, dec 0 f = (rc0, 7) := fun f => by unfold dec; rw [if_pos (by omega)]
  unfold allR
  rw [allF, e1, if_neg (by decide), allF, e2, if_neg (by decide), allF, e3, if_pos (by decide)]
theorem fB1_at (i : Nat) (hi : i < 10) : ((nine rB) ++ [.int .u8 9])[i]? = some (.int .u8 (fB1 i)) := by
  unfold fB1
  by_cases h : i < 9
  · rw [if_pos h, List.getElem?_append_left (by rw [nine_len]; exact h)]; exact nine_at rB i h
  · obtain rfl : i = 9 := by omega
    rfl
theorem fB2_at (i : Nat) (hi : i < 18) : ((nine rB) ++ (nine rB))[i]? = some (.int .u8 (fB2 i)) := by
  unfold fB2
  by_cases h : i < 9
  · rw [if_pos h, List.getElem?_append_left (by rw [nine_len]; exact h)]; exact nine_at rB i h
  · rw [if_neg h, List.getElem?_append_right (by rw [nine_len]; omega), nine_len]; exact nine_at rB _ (by omega)

set_option maxRecDepth 100000 in
set_option maxHeartbeats 4000000 in
theorem cbegun_any (w : World) : Calls Try.prog 24 #[] w fun e w' => e = .returned (.bool true) ∧ Chg [] w w' := by
  obtain ⟨i0, hi, hz0, hz1, hz2⟩ := info_parts u8Info
  go_enter Try.func24, Try.ntmps24
  go_wp2_with fail
  refine (enc_yes rB _ rB_ck).mono ?_
  rintro e w1 ⟨g, rfl, hg, B1, g1⟩
  have R1 := hide ((Blk.new w rB.cells 48).chg g1 (by simp))
  have G1 : Chg [] w w1 := ((Chg.refl _ _).alloc _).trans g1 (by simp)
  have zg : g < w1.heap.size := B1.lt
  clear g1
  simp only [World.size_alloc] at hg
  go_wp2_with (first
    | (at_builtin; refine wpList_append_own _ rfl (.const (.slice none 0 0)) (.tmp 17) 49 rfl w1.heap.size 5 i0 (.int .u8 0) 1 1 Try.underlying49 hi hz0 hz1 hz2 rfl (by decide) (.slice none 0 0) 0 [] rfl (World.ownsRow_nil _ _ _ _) ⟨g, 0, none⟩ 9 9 (nine rB) rfl rfl B1.news (nine_one rB) (by unfold maxLen; omega) (by omega) (Nat.le_refl _) ?_; intro v2 w2 own2 gr2 _; simp only [List.nil_append, Nat.zero_add] at own2; have z2 := gr2.size)
    | (at_builtin; refine wpList_append_own _ rfl (.tmp 18) (.tmp 19) 49 rfl w1.heap.size 5 i0 (.int .u8 0) 1 1 Try.underlying49 hi hz0 hz1 hz2 rfl (by decide) v2 9 _ rfl (own2.alloc _) ⟨w2.heap.size, 0, none⟩ 1 1 [.int .u8 9] rfl rfl (Blk.new _ _ _).news (by simp [Value.oneCell']) (by unfold maxLen; omega) (by omega) (by simp; omega) ?_; intro v3 w3 own3 gr3 _))
  obtain ⟨g3, c3, rfl, hc3, hg3, -⟩ := own_shape own3 (by omega)
  have G3 : Chg [] w1 w3 := (((Chg.refl [] w1).grown gr2 (by simp [Value.ownBlock])).alloc _).grown gr3 (fun j hj => .inr (own2.lt j hj).1)
  have Y3 := own_byt own3 fB1_bd fB1_at
  clear own2 own3 gr2 gr3
  refine (dec_any _ 10 c3 fB1 _ hc3 Y3).mono ?_
  rintro e w4 ⟨rfl, g4⟩
  rw [fB1_dec]
  have G4 := G3.trans g4 (by simp)
  clear G3 g4 Y3
  simp only
  have X4 := Blk.new w4 rB.cells 48
  have G5 := G4.alloc (.cells rB.cells 48)
  unfold Rc.cells rB
  go_wp2_with fail
  refine (dec_short none 0 0 _ (by omega)).mono ?_
  rintro e w6 ⟨rfl, g6⟩
  have X6 := hide (X4.chg g6 (by simp))
  have G6 := G5.trans g6 (by simp)
  have B6 := B1.chg G6 (by simp)
  have z6 := G6.size
  have zx : w4.heap.size < w6.heap.size := (unhide X6).lt
  have z14 := G4.size
  clear X4 G5 g6 G4 B1
  unfold Rc.cells rc0
  go_wp2_with (first
    | (at_builtin; refine wpList_append_own _ rfl (.const (.slice none 0 0)) (.tmp 28) 49 rfl (w6.heap.size + 1) 5 i0 (.int .u8 0) 1 1 Try.underlying49 hi hz0 hz1 hz2 rfl (by decide) (.slice none 0 0) 0 [] rfl (World.ownsRow_nil _ _ _ _) ⟨g, 0, none⟩ 9 9 (nine rB) rfl rfl (B6.alloc _).news (nine_one rB) (by unfold maxLen; omega) (by omega) (by simp) ?_; intro v7 w7 own7 gr7 _; simp only [List.nil_append, Nat.zero_add] at own7; have z7 := gr7.size; have G7 : Chg [] (w6.alloc (.cells rc0.cells 48)) w7 := (Chg.refl _ _).grown gr7 (by simp [Value.ownBlock]); have B7 := (B6.alloc (.cells rc0.cells 48)).chg G7 (by simp); simp only [World.size_alloc] at z7)
    | (at_builtin; refine wpList_append_own _ rfl (.tmp 29) (.tmp 30) 49 rfl (w6.heap.size + 1) 5 i0 (.int .u8 0) 1 1 Try.underlying49 hi hz0 hz1 hz2 rfl (by decide) v7 9 _ rfl own7 ⟨g, 0, none⟩ 9 9 (nine rB) rfl rfl B7.news (nine_one rB) (by unfold maxLen; omega) (by omega) (by omega) ?_; intro v8 w8 own8 gr8 _))
  obtain ⟨g8, c8, rfl, hc8, hg8, -⟩ := own_shape own8 (by omega)
  have G8 : Chg [] w6 w8 := (((Chg.refl [] w6).alloc _).trans G7 (by simp)).grown gr8 (fun j hj => .inr (by have := (own7.lt j hj).1; omega))
  have Y8 := own_byt own8 fB2_bd fB2_at
  clear own7 own8 gr7 gr8 B7 z7
  refine (all_any _ 18 c8 fB2 _ (by omega) hc8 Y8).mono ?_
  rintro e w9 ⟨v9, rfl, own9, g9⟩
  rw [fB2_all] at own9
  obtain ⟨g9', c9, rfl, -⟩ := own_shape own9 (by simp)
  have G9 := G8.trans g9 (by simp)
  have GG := (G1.trans G6 (by simp)).trans G9 (by simp)
  obtain ⟨a0, a1, a2, a3, a4, a5, a6⟩ := ((unhide X6).chg G9 (by simp)).seven
  obtain ⟨r0, r1, r2, r3, r4, r5, r6⟩ := (((unhide R1).chg G6 (by simp)).chg G9 (by simp)).seven
  have hB9 := B6.chg G9 (by simp)
  have hcv : (convert 49 9 (.slice (some ⟨g, 0, none⟩) 9 9)).run Try.prog w9 = .ok (.string ⟨#[3, 2, 1, 2, 0, 0, 1, 7, 82]⟩) w9 := by
    rw [← rB_str]
    exact Byt.str (nine_cell hB9)
  clear own9 g9 Y8 G8 G9 B6 G7 X6 R1 hB9 G6 G1
  simp only [rB] at a0 a1 a2 a3 a4 a5 a6 r0 r1 r2 r3 r4 r5 r6
  go_wp2
  go_ret
  exact ⟨rfl, GG⟩

end Go.Proofs.Ytdppeddiffjamaa
