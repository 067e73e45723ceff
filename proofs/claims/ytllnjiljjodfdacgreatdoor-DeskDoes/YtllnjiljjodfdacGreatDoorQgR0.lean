/-
 Results that lie in memory: a whole table, a table and an answer. Nothing here is claimed by itself.
-/
import Derived.Deep.MidRow
import Derived.Deep.Light
import Derived.Test.YtllnjiljjodfdacGreatDoorQgW5
import Derived.Test.YtllnjiljjodfdacGreatDoorQgW1
namespace Go.Proofs.YtllnjiljjodfdacGreatDoor
open Go.RowKit

theorem Has.set5 {ty : TypeId} {w : World} {b : Nat} {T : Tb} (h : Has ty w b T) {n : Nat} (hn : n < 6) (j : Jb) (s : Int) :
  Has ty (((((w.setCell ⟨b, n * 4, none⟩ (.int .i64 j.st)).setCell ⟨b, n * 4 + 1, none⟩ (.int .i64 j.wk)).setCell ⟨b, n * 4 + 2, none⟩ (.int .i64 j.tr)).setCell ⟨b, n * 4 + 3, none⟩ (.int .i64 j.un)).setCell ⟨b, n * 4, none⟩ (.int .i64 s)) b (T.set n ⟨s, j.wk, j.tr, j.un⟩) := by
 have := Has.rawSet (h.set4 hn j) (n * 4) (.int .i64 s)
 have e : ((T.set n j).cells).setIfInBounds (n * 4) (.int .i64 s) = (T.set n ⟨s, j.wk, j.tr, j.un⟩).cells := by
  rcases six hn with rfl | rfl | rfl | rfl | rfl | rfl <;> rfl
 rw [e] at this
 exact this
theorem Has.setUn {ty : TypeId} {w : World} {b : Nat} {T : Tb} (h : Has ty w b T) {n : Nat} (hn : n < 6) (u : Int) :
  Has ty (w.setCell ⟨b, n * 4 + 3, none⟩ (.int .i64 u)) b (T.set n ⟨(T.js n).st, (T.js n).wk, (T.js n).tr, u⟩) := by
 have := Has.rawSet h (n * 4 + 3) (.int .i64 u)
 have e : (T.cells).setIfInBounds (n * 4 + 3) (.int .i64 u) = (T.set n ⟨(T.js n).st, (T.js n).wk, (T.js n).tr, u⟩).cells := by
  rcases six hn with rfl | rfl | rfl | rfl | rfl | rfl <;> rfl
 rw [e] at this
 exact this
theorem load_tab {ty : TypeId} (hr : ∃ d, Tryz.prog.underlying ty = some d ∧ d.isRow = true) (hi : (Tryz.prog.info? ty).map (·.size) = some 25) {w : World} {b : Nat} {ty' : TypeId} {T : Tb} (h : Has ty' w b T) :
  (loadVar ty ⟨b, 0, none⟩).run Tryz.prog w = .ok (.agg T.cells) w := by
 obtain ⟨d, hu, hd⟩ := hr
 have hc : w.rangeAt b 0 T.cells.toList := fun j v hv => by rw [Nat.zero_add, h.cellAt]; simpa using hv
 have := run_loadVar_mid (P := Tryz.prog) w b 0 ty T.cells.toList d hc hu hd (by rw [hi]; rfl)
 simpa using this
theorem ansInfo : (Tryz.prog.info? 95).map (·.size) = some 3 := by kernel_rfl
theorem ansRow : ∃ d, Tryz.prog.underlying 95 = some d ∧ d.isRow = true := ⟨_, Tryz.underlying95, rfl⟩
theorem load_ans {w : World} {b : Nat} {ty' : TypeId} {x y z : Value} (h : Blk w b #[x, y, z] ty') : (loadVar 95 ⟨b, 0, none⟩).run Tryz.prog w = .ok (.agg #[x, y, z]) w := by
 obtain ⟨d, hu, hd⟩ := ansRow
 have hc : w.rangeAt b 0 [x, y, z] := fun j v hv => by rw [Nat.zero_add, h.cell]; simpa using hv
 exact run_loadVar_mid (P := Tryz.prog) w b 0 95 [x, y, z] d hc hu hd (by rw [ansInfo]; rfl)
theorem ret_tab {fn : Func} {p : Tmp} {ty : TypeId} (h : fn.results = #[.cell p ty]) (hr : ∃ d, Tryz.prog.underlying ty = some d ∧ d.isRow = true) (hi : (Tryz.prog.info? ty).map (·.size) = some 25) {tmps : Array Value} {w : World} {b : Nat}
  (hp : tmps.getD p undef = .pointer (some ⟨b, 0, none⟩)) {ty' : TypeId} {T : Tb} (hT : Has ty' w b T) : (results fn tmps).run Tryz.prog w = .ok (.agg T.cells) w := by
 have hl := load_tab hr hi hT
 have hp' : tmps[p]?.getD undef = .pointer (some ⟨b, 0, none⟩) := by simpa using hp
 simp only [results, h]
 simp [hp', asAddr, hl]
theorem ret_tab_ans {fn : Func} {p q : Tmp} {ty : TypeId} (h : fn.results = #[.cell p ty, .cell q 95]) (hr : ∃ d, Tryz.prog.underlying ty = some d ∧ d.isRow = true) (hi : (Tryz.prog.info? ty).map (·.size) = some 25) {tmps : Array Value} {w : World} {b c : Nat}
  (hp : tmps.getD p undef = .pointer (some ⟨b, 0, none⟩)) (hq : tmps.getD q undef = .pointer (some ⟨c, 0, none⟩)) {ty' ty'' : TypeId} {T : Tb} (hT : Has ty' w b T) {x y z : Value} (hA : Blk w c #[x, y, z] ty'') :
  (results fn tmps).run Tryz.prog w = .ok (.tuple #[.agg T.cells, .agg #[x, y, z]]) w := by
 have hl := load_tab hr hi hT
 have ha := load_ans hA
 have hp' : tmps[p]?.getD undef = .pointer (some ⟨b, 0, none⟩) := by simpa using hp
 have hq' : tmps[q]?.getD undef = .pointer (some ⟨c, 0, none⟩) := by simpa using hq
 simp only [results, h]
 simp [hp', hq', asAddr, hl, ha]
theorem job_out (b : Nat) (n : Int) (hn : n < 0 ∨ 5 < n) (w : World) :
  Calls Tryz.prog 56 #[.pointer (some ⟨b, 0, none⟩), .int .i64 n] w fun e w' => e = .returned (.agg #[.int .i64 0, .int .i64 0, .int .i64 0, .int .i64 0]) ∧ Chg [] w w' := by
 have hi : inB n 0 5 = false := by simp [inB]; omega
 clear hn
 go_enter Tryz.func56, Tryz.ntmps56
 go_wp2_with (go_at_call 74; refine (isJob_any _ _).mono ?_; rintro e w' ⟨rfl, rfl⟩)
 go_returns
 exact ⟨rfl, (Chg.refl _ _).alloc _⟩
theorem bjob_in (b n : Nat) (hn : n < 6) (T : Tb) (w : World) (h : Has 103 w b T) :
  Calls Tryz.prog 45 #[.pointer (some ⟨b, 0, none⟩), .int .i64 n] w fun e w' => e = .returned (.agg #[.int .i64 (T.js n).st, .int .i64 (T.js n).wk, .int .i64 (T.js n).tr, .int .i64 (T.js n).un]) ∧ Chg [] w w' := by
 have hl := h.lt
 have c0 := h.c0 hn
 have c1 := h.c1 hn
 have c2 := h.c2 hn
 have c3 := h.c3 hn
 have d0 : decide ((n : Int) < 0) = false := by simp
 have d1 : decide ((6 : Int) ≤ (n : Int)) = false := by simp; omega
 have hn' : (n : Int) < 6 := by omega
 go_enter Tryz.func45, Tryz.ntmps45
 go_wp2
 go_returns
 exact ⟨rfl, (Chg.refl _ _).alloc _⟩
theorem bjob_out (b : Nat) (n : Int) (hn : n < 0 ∨ 5 < n) (w : World) :
  Calls Tryz.prog 45 #[.pointer (some ⟨b, 0, none⟩), .int .i64 n] w fun e w' => e = .returned (.agg #[.int .i64 0, .int .i64 0, .int .i64 0, .int .i64 0]) ∧ Chg [] w w' := by
 by_cases h0 : n < 0
 ·have d0 : decide (n < 0) = true := by simpa using h0
  clear hn h0
  go_enter Tryz.func45, Tryz.ntmps45
  go_wp2
  go_returns
  exact ⟨rfl, (Chg.refl _ _).alloc _⟩
 ·have d0 : decide (n < 0) = false := by simp; omega
  have d1 : decide ((6 : Int) ≤ n) = true := by simp; omega
  clear hn h0
  go_enter Tryz.func45, Tryz.ntmps45
  go_wp2
  go_returns
  exact ⟨rfl, (Chg.refl _ _).alloc _⟩
theorem ret_int {k : IntKind} {a b : Int} (h : a = b) : Ending.returned (.int k a) = .returned (.int k b) := by rw [h]
theorem chk_of (o : Od) (hk : knownB o.k = true) (F R : Prop) [Decidable F] [Decidable R] (hF : formB o (hJob o.k) (hTry o.k) (hWrk o.k) (hTrm o.k) = true ↔ F) (hR : F → (rangeB o (hTry o.k) (hTrm o.k) = true ↔ R)) :
  chk o = if F then (if R then 0 else 3) else 2 := by
 unfold chk
 rw [if_neg (by rw [hk]; decide)]
 by_cases hf : F
 ·have h1 := hF.2 hf
  rw [if_neg (by rw [h1]; decide), if_pos hf]
  by_cases hr : R
  ·have h2 := (hR hf).2 hr
   rw [if_neg (by rw [h2]; decide), if_pos hr]
  ·have h2 : rangeB o (hTry o.k) (hTrm o.k) = false := by
    cases h3 : rangeB o (hTry o.k) (hTrm o.k)
    ·rfl
    ·exact absurd ((hR hf).1 h3) hr
   rw [if_pos h2, if_neg hr]
 ·have h1 : formB o (hJob o.k) (hTry o.k) (hWrk o.k) (hTrm o.k) = false := by
   cases h3 : formB o (hJob o.k) (hTry o.k) (hWrk o.k) (hTrm o.k)
   ·rfl
   ·exact absurd (hF.1 h3) hf
  rw [if_pos h1, if_neg hf]
theorem chk_k1 (now jb tr wk tm : Int) : chk ⟨1, now, jb, tr, wk, tm⟩ = if tr = 0 ∧ wk = 0 ∧ tm = 0 then (if 0 ≤ now ∧ now ≤ 60000 ∧ 0 ≤ jb ∧ jb ≤ 5 then 0 else 3) else 2 :=
 chk_of _ rfl _ _ (by simp [formB, hJob, hTry, hWrk, hTrm]; omega) (by intro hf; simp [rangeB, inB, hTry, hTrm]; omega)
set_option maxRecDepth 100000 in
set_option maxHeartbeats 4000000 in
theorem fault_k1 (now jb tr wk tm : Int) (w : World) :
  Calls Tryz.prog 117 #[.agg #[.int .i64 1, .int .i64 now, .int .i64 jb, .int .i64 tr, .int .i64 wk, .int .i64 tm]] w fun e w' => e = .returned (.int .i64 (chk ⟨1, now, jb, tr, wk, tm⟩)) ∧ Chg [] w w' := by
 have HC := hide (chk_k1 now jb tr wk tm)
 generalize chk ⟨1, now, jb, tr, wk, tm⟩ = c at *
 go_enter Tryz.func117, Tryz.ntmps117
 go_wp2
 all_goals
  go_ret
  refine ⟨ret_int ?_, (Chg.refl _ _).alloc _⟩
  go_light
  rw [unhide HC]
  clear HC
  try simp only [bne_iff_ne, ne_eq, bne_eq_false_iff_eq] at *
  split <;> (try split) <;> omega
theorem chk_k2 (now jb tr wk tm : Int) : chk ⟨2, now, jb, tr, wk, tm⟩ = if jb = 0 ∧ tr = 0 then (if 0 ≤ now ∧ now ≤ 60000 ∧ 0 ≤ wk ∧ wk ≤ 3 ∧ 1 ≤ tm ∧ tm ≤ 20 then 0 else 3) else 2 :=
 chk_of _ rfl _ _ (by simp [formB, hJob, hTry, hWrk, hTrm]) (by intro hf; simp [rangeB, inB, hTry, hTrm]; omega)
set_option maxRecDepth 100000 in
set_option maxHeartbeats 4000000 in
theorem fault_k2 (now jb tr wk tm : Int) (w : World) :
  Calls Tryz.prog 117 #[.agg #[.int .i64 2, .int .i64 now, .int .i64 jb, .int .i64 tr, .int .i64 wk, .int .i64 tm]] w fun e w' => e = .returned (.int .i64 (chk ⟨2, now, jb, tr, wk, tm⟩)) ∧ Chg [] w w' := by
 have HC := hide (chk_k2 now jb tr wk tm)
 generalize chk ⟨2, now, jb, tr, wk, tm⟩ = c at *
 go_enter Tryz.func117, Tryz.ntmps117
 go_wp2
 all_goals
  go_ret
  refine ⟨ret_int ?_, (Chg.refl _ _).alloc _⟩
  go_light
  rw [unhide HC]
  clear HC
  try simp only [bne_iff_ne, ne_eq, bne_eq_false_iff_eq] at *
  split <;> (try split) <;> omega
theorem chk_k3 (now jb tr wk tm : Int) : chk ⟨3, now, jb, tr, wk, tm⟩ = if 0 ≤ now ∧ now ≤ 60000 ∧ 0 ≤ jb ∧ jb ≤ 5 ∧ 0 ≤ wk ∧ wk ≤ 3 ∧ 1 ≤ tr ∧ tr ≤ 3 ∧ 1 ≤ tm ∧ tm ≤ 20 then 0 else 3 :=
 (chk_of _ rfl (0 = 0) (0 ≤ now ∧ now ≤ 60000 ∧ 0 ≤ jb ∧ jb ≤ 5 ∧ 0 ≤ wk ∧ wk ≤ 3 ∧ 1 ≤ tr ∧ tr ≤ 3 ∧ 1 ≤ tm ∧ tm ≤ 20) (by simp [formB, hJob, hTry, hWrk, hTrm]) (by intro hf; simp [rangeB, inB, hTry, hTrm]; omega)).trans (if_pos rfl)
set_option maxRecDepth 100000 in
set_option maxHeartbeats 4000000 in
theorem fault_k3 (now jb tr wk tm : Int) (w : World) :
  Calls Tryz.prog 117 #[.agg #[.int .i64 3, .int .i64 now, .int .i64 jb, .int .i64 tr, .int .i64 wk, .int .i64 tm]] w fun e w' => e = .returned (.int .i64 (chk ⟨3, now, jb, tr, wk, tm⟩)) ∧ Chg [] w w' := by
 have HC := hide (chk_k3 now jb tr wk tm)
 generalize chk ⟨3, now, jb, tr, wk, tm⟩ = c at *
 go_enter Tryz.func117, Tryz.ntmps117
 go_wp2
 all_goals
  go_ret
  refine ⟨ret_int ?_, (Chg.refl _ _).alloc _⟩
  go_light
  rw [unhide HC]
  clear HC
  try simp only [bne_iff_ne, ne_eq, bne_eq_false_iff_eq] at *
  split <;> (try split) <;> omega
theorem chk_k4 (now jb tr wk tm : Int) : chk ⟨4, now, jb, tr, wk, tm⟩ = if tm = 0 then (if 0 ≤ now ∧ now ≤ 60000 ∧ 0 ≤ jb ∧ jb ≤ 5 ∧ 0 ≤ wk ∧ wk ≤ 3 ∧ 1 ≤ tr ∧ tr ≤ 3 then 0 else 3) else 2 :=
 chk_of _ rfl _ _ (by simp [formB, hJob, hTry, hWrk, hTrm]) (by intro hf; simp [rangeB, inB, hTry, hTrm]; omega)
set_option maxRecDepth 100000 in
set_option maxHeartbeats 4000000 in
theorem fault_k4 (now jb tr wk tm : Int) (w : World) :
  Calls Tryz.prog 117 #[.agg #[.int .i64 4, .int .i64 now, .int .i64 jb, .int .i64 tr, .int .i64 wk, .int .i64 tm]] w fun e w' => e = .returned (.int .i64 (chk ⟨4, now, jb, tr, wk, tm⟩)) ∧ Chg [] w w' := by
 have HC := hide (chk_k4 now jb tr wk tm)
 generalize chk ⟨4, now, jb, tr, wk, tm⟩ = c at *
 go_enter Tryz.func117, Tryz.ntmps117
 go_wp2
 all_goals
  go_ret
  refine ⟨ret_int ?_, (Chg.refl _ _).alloc _⟩
  go_light
  rw [unhide HC]
  clear HC
  try simp only [bne_iff_ne, ne_eq, bne_eq_false_iff_eq] at *
  split <;> (try split) <;> omega
theorem chk_k5 (now jb tr wk tm : Int) : chk ⟨5, now, jb, tr, wk, tm⟩ = if tm = 0 then (if 0 ≤ now ∧ now ≤ 60000 ∧ 0 ≤ jb ∧ jb ≤ 5 ∧ 0 ≤ wk ∧ wk ≤ 3 ∧ 1 ≤ tr ∧ tr ≤ 3 then 0 else 3) else 2 :=
 chk_of _ rfl _ _ (by simp [formB, hJob, hTry, hWrk, hTrm]) (by intro hf; simp [rangeB, inB, hTry, hTrm]; omega)
set_option maxRecDepth 100000 in
set_option maxHeartbeats 4000000 in
theorem fault_k5 (now jb tr wk tm : Int) (w : World) :
  Calls Tryz.prog 117 #[.agg #[.int .i64 5, .int .i64 now, .int .i64 jb, .int .i64 tr, .int .i64 wk, .int .i64 tm]] w fun e w' => e = .returned (.int .i64 (chk ⟨5, now, jb, tr, wk, tm⟩)) ∧ Chg [] w w' := by
 have HC := hide (chk_k5 now jb tr wk tm)
 generalize chk ⟨5, now, jb, tr, wk, tm⟩ = c at *
 go_enter Tryz.func117, Tryz.ntmps117
 go_wp2
 all_goals
  go_ret
  refine ⟨ret_int ?_, (Chg.refl _ _).alloc _⟩
  go_light
  rw [unhide HC]
  clear HC
  try simp only [bne_iff_ne, ne_eq, bne_eq_false_iff_eq] at *
  split <;> (try split) <;> omega
set_option maxRecDepth 100000 in
set_option maxHeartbeats 1000000 in
theorem fault_any (o : Od) (w : World) :
  Calls Tryz.prog 117 #[.agg #[.int .i64 o.k, .int .i64 o.now, .int .i64 o.jb, .int .i64 o.tr, .int .i64 o.wk, .int .i64 o.tm]] w fun e w' => e = .returned (.int .i64 (chk o)) ∧ Chg [] w w' := by
 obtain ⟨k, now, jb, tr, wk, tm⟩ := o
 by_cases h1 : k = 1
 ·subst h1; exact fault_k1 now jb tr wk tm w
 by_cases h2 : k = 2
 ·subst h2; exact fault_k2 now jb tr wk tm w
 by_cases h3 : k = 3
 ·subst h3; exact fault_k3 now jb tr wk tm w
 by_cases h4 : k = 4
 ·subst h4; exact fault_k4 now jb tr wk tm w
 by_cases h5 : k = 5
 ·subst h5; exact fault_k5 now jb tr wk tm w
 have e5 : knownB k = false := by simp [knownB, inB]; omega
 have ec : chk ⟨k, now, jb, tr, wk, tm⟩ = 1 := by simp [chk, e5]
 rw [ec]
 have b1 : (k == 1) = false := by simpa using h1
 have b2 : (k == 2) = false := by simpa using h2
 have b3 : (k == 3) = false := by simpa using h3
 have b4 : (k == 4) = false := by simpa using h4
 have b5 : (k == 5) = false := by simpa using h5
 clear h1 h2 h3 h4 h5 e5 ec
 go_enter Tryz.func117, Tryz.ntmps117
 go_wp2
 go_ret
 exact ⟨rfl, (Chg.refl _ _).alloc _⟩
set_option maxRecDepth 100000 in
set_option maxHeartbeats 4000000 in
theorem later_mx (js : Nat → Jb) (now m mx : Int) (w : World) (hmx : m ≤ now ∧ mx = now ∨ now < m ∧ mx = m) (htr : ∀ n, n < 6 → (js n).tr ≤ 3) :
  Calls Tryz.prog 118 #[.agg (Tb.mk js now).cells, .int .i64 m] w fun e w' => e = .returned (.agg (passTo js mx 6).cells) ∧ Chg [] w w' := by
 have hc24 : (Tb.mk js now).cells[24]? = some (.int .i64 now) := rfl
 have Htr := hide htr
 clear htr
 rcases hmx with ⟨h1, h2⟩ | ⟨h1, h2⟩
 all_goals
  subst h2
  go_enter Tryz.func118, Tryz.ntmps118
  go_wp2_with fail
  clear hc24
  go_loopw [5] (fun i wr => ∃ k : Nat, k ≤ 6 ∧ i = .int .i64 k ∧ Has 103 wr w.heap.size (passTo js mx k) ∧ Has 103 wr (w.heap.size + 1) T0 ∧ Chg [] w wr) (fun i _ => 6 - (intOf i).toNat)
  case atStart =>
   refine ⟨0, by omega, rfl, ?_, Blk.new1 w _ _ _, ((Chg.refl _ _).alloc _).alloc _⟩
   exact (Blk.new w _ _).alloc _
  case round =>
   obtain ⟨k, hk, rfl, hT, hR, hg⟩ := hrel
   have hl := hT.lt
   by_cases hlt : k < 6
   ·have c0 := hT.c0 hlt
    have c1 := hT.c1 hlt
    have c2 := hT.c2 hlt
    have c3 := hT.c3 hlt
    have cn := hT.cn
    rw [passTo_at] at c0 c1 c2 c3
    change wr.cell? _ = some (.int .i64 mx) at cn
    by_cases e1 : (js k).st = 2 ∧ (js k).un ≤ mx
    ·have b1 : ((js k).st == 2) = true := by simpa using e1.1
     have b2 : decide ((js k).un ≤ mx) = true := by simpa using e1.2
     have HT := hide (passTo_turn js mx k e1)
     clear e1
     have f0 := hT.fz (k * 4)
     have f1 := hT.fz (k * 4 + 1)
     have f2 := hT.fz (k * 4 + 2)
     have f3 := hT.fz (k * 4 + 3)
     by_cases e3 : (js k).tr = 3
     ·have b3 : decide ((3 : Int) ≤ (js k).tr) = true := by simp; omega
      have er : relJ (js k) = ⟨4, 0, (js k).tr, 0⟩ := by simp [relJ, e3]
      have ER := hide er
      clear e3 er
      go_wp2
      refine ⟨⟨k + 1, by omega, by go_num, by rw [unhide HT, unhide ER]; exact (hT.set5 hlt ⟨1, 0, (js k).tr, 0⟩ 4).alloc _, (((((hR.setOther (by simp) _).setOther (by simp) _).setOther (by simp) _).setOther (by simp) _).setOther (by simp) _).alloc _, (((((hg.setCell (by simp) _).setCell (by simp) _).setCell (by simp) _).setCell (by simp) _).setCell (by simp) _).alloc _⟩, ?_⟩
      simp [intOf]
      omega
     ·have b3 : decide ((3 : Int) ≤ (js k).tr) = false := by have := unhide Htr k hlt; simp; omega
      have er : relJ (js k) = ⟨1, 0, (js k).tr, 0⟩ := by simp [relJ, e3]
      have ER := hide er
      clear e3 er
      go_wp2
      go_roundw
      case rel => exact ⟨k + 1, by omega, by go_num, by rw [unhide HT, unhide ER]; exact (hT.set4 hlt ⟨1, 0, (js k).tr, 0⟩).alloc _, ((((hR.setOther (by simp) _).setOther (by simp) _).setOther (by simp) _).setOther (by simp) _).alloc _, ((((hg.setCell (by simp) _).setCell (by simp) _).setCell (by simp) _).setCell (by simp) _).alloc _⟩
      case measure => go_light; simp [intOf]; omega
    ·have HT := hide (passTo_keep js mx k e1)
     by_cases e2 : (js k).st = 2
     ·have b1 : ((js k).st == 2) = true := by simpa using e2
      have b2 : decide ((js k).un ≤ mx) = false := by
       have : ¬ (js k).un ≤ mx := fun h => e1 ⟨e2, h⟩
       simpa using this
      clear e1 e2
      go_wp2
      go_roundw
      case rel => exact ⟨k + 1, by omega, by go_num, by rw [unhide HT]; exact hT.alloc _, hR.alloc _, hg.alloc _⟩
      case measure => go_light; simp [intOf]; omega
     ·have b1 : ((js k).st == 2) = false := by simpa using e2
      clear e1 e2
      go_wp2
      go_roundw
      case rel => exact ⟨k + 1, by omega, by go_num, by rw [unhide HT]; exact hT.alloc _, hR.alloc _, hg.alloc _⟩
      case measure => go_light; simp [intOf]; omega
   ·obtain rfl : k = 6 := by omega
    go_wp2_with (first | (refine wpList_load_tab 103 brdRow brdInfo rfl _ rfl w.heap.size rfl 103 (passTo js mx 6) hT ?_) | (refine wpList_store_tab 103 brdInfo rfl _ _ rfl (w.heap.size + 1) rfl (passTo js mx 6) rfl 103 T0 hR ?_; intro w5 hT5 hg5 hz5))
    refine bodyPost_ret (v := .agg (passTo js mx 6).cells) (ret_tab rfl brdRow brdInfo rfl hT5) rfl ?_
    exact ⟨rfl, hg.trans hg5 (by simp)⟩
theorem later_any (T : Tb) (m : Int) (w : World) (htr : ∀ n, n < 6 → (T.js n).tr ≤ 3) :
  Calls Tryz.prog 118 #[.agg T.cells, .int .i64 m] w fun e w' => e = .returned (.agg (passT T m).cells) ∧ Chg [] w w' :=
 later_mx T.js T.now m (max T.now m) w (by omega) htr
end Go.Proofs.YtllnjiljjodfdacGreatDoor
