/-
 The plain mathematics of the codec layer (a record, its nine bytes, the sum), and what it means that bytes lie in memory. Nothing here is claimed by itself.
-/
import Derived.Deep.Light
import Derived.StillTailTactics
import Derived.Test.YtllnjiljjodfdacGreatDoorQgW5
namespace Go.Proofs.YtllnjiljjodfdacGreatDoor
open Go.RowKit

structure Rc where
 ep : Int
 o : Od
theorem Od.ext' {a b : Od} (h1 : a.k = b.k) (h2 : a.now = b.now) (h3 : a.jb = b.jb) (h4 : a.tr = b.tr) (h5 : a.wk = b.wk) (h6 : a.tm = b.tm) : a = b := by
 cases a; cases b; simp_all
theorem Rc.ext' {a b : Rc} (h0 : a.ep = b.ep) (h : a.o = b.o) : a = b := by
 cases a; cases b; simp_all
def rc0 : Rc := ⟨0, ⟨0, 0, 0, 0, 0, 0⟩⟩
def Rc.list (r : Rc) : List Value := [.int .i64 r.ep, .int .i64 r.o.k, .int .i64 r.o.now, .int .i64 r.o.jb, .int .i64 r.o.tr, .int .i64 r.o.wk, .int .i64 r.o.tm]
def Rc.cells (r : Rc) : Array Value := #[.int .i64 r.ep, .int .i64 r.o.k, .int .i64 r.o.now, .int .i64 r.o.jb, .int .i64 r.o.tr, .int .i64 r.o.wk, .int .i64 r.o.tm]
def sm (f : Nat → Int) : Nat → Int
 | 0 => 1
 | k + 1 => sm f k + f k * ((k : Int) + 1)
theorem sm_congr {f g : Nat → Int} : ∀ k, (∀ i, i < k → f i = g i) → sm f k = sm g k
 | 0, _ => rfl
 | k + 1, h => by simp only [sm]; rw [sm_congr k (fun i hi => h i (by omega)), h k (by omega)]
theorem sm_step (f : Nat → Int) {k : Nat} (hk : k < 8) (h0 : 0 ≤ f k) (h1 : f k < 256) : 0 ≤ f k * ((k : Int) + 1) ∧ f k * ((k : Int) + 1) ≤ 2040 := by
 obtain rfl | rfl | rfl | rfl | rfl | rfl | rfl | rfl : k = 0 ∨ k = 1 ∨ k = 2 ∨ k = 3 ∨ k = 4 ∨ k = 5 ∨ k = 6 ∨ k = 7 := by omega
 all_goals (constructor <;> simp <;> omega)
theorem sm_bd (f : Nat → Int) (hf : ∀ i, i < 8 → 0 ≤ f i ∧ f i < 256) : ∀ k, k ≤ 8 → 1 ≤ sm f k ∧ sm f k ≤ 1 + 2040 * (k : Int)
 | 0, _ => ⟨by simp [sm], by simp [sm]⟩
 | k + 1, h => by
  have ih := sm_bd f hf k (by omega)
  have st := sm_step f (k := k) (by omega) (hf k (by omega)).1 (hf k (by omega)).2
  simp only [sm]
  omega
def ckR (r : Rc) : Int := if r.ep < 1 ∨ 100 < r.ep then 3 else chk r.o
def by8 (r : Rc) : Nat → Int
 | 0 => r.ep | 1 => r.o.k | 2 => r.o.now / 256 | 3 => r.o.now % 256 | 4 => r.o.jb | 5 => r.o.tr | 6 => r.o.wk | _ => r.o.tm
def by9 (r : Rc) : Nat → Int := fun i => if i < 8 then by8 r i else sm (by8 r) 8 % 251
def rdR (f : Nat → Int) : Rc := ⟨f 0, ⟨f 1, f 2 * 256 + f 3, f 4, f 5, f 6, f 7⟩⟩
def dec (n : Nat) (f : Nat → Int) : Rc × Int :=
 if n < 9 then (rc0, 7) else if f 8 ≠ sm f 8 % 251 then (rc0, 2) else if ckR (rdR f) ≠ 0 then (rc0, ckR (rdR f)) else (rdR f, 0)
theorem chk_bd {o : Od} (h : chk o = 0) : (1 ≤ o.k ∧ o.k ≤ 5) ∧ (0 ≤ o.now ∧ o.now ≤ 60000) ∧ (0 ≤ o.jb ∧ o.jb ≤ 5) ∧ (0 ≤ o.tr ∧ o.tr ≤ 3) ∧ (0 ≤ o.wk ∧ o.wk ≤ 3) ∧ (0 ≤ o.tm ∧ o.tm ≤ 20) := by
 unfold chk at h
 split at h
 ·omega
 split at h
 ·omega
 split at h
 ·omega
 rename_i h1 h2 h3
 rw [Bool.not_eq_false] at h1 h2 h3
 simp only [knownB, inB, formB, rangeB, Bool.and_eq_true, Bool.or_eq_true, decide_eq_true_eq, Bool.not_eq_true', beq_iff_eq] at h1 h2 h3
 refine ⟨by omega, by omega, by omega, ?_, by omega, ?_⟩
 ·rcases h2.1.1.2 with e | e
  ·rcases h3.1.2 with e' | e'
   ·rw [e] at e'; cases e'
   ·omega
  ·omega
 ·rcases h2.2 with e | e
  ·rcases h3.2 with e' | e'
   ·rw [e] at e'; cases e'
   ·omega
  ·omega
theorem ckR_bd {r : Rc} (h : ckR r = 0) : (1 ≤ r.ep ∧ r.ep ≤ 100) ∧ chk r.o = 0 := by
 unfold ckR at h
 split at h
 ·omega
 ·exact ⟨by omega, h⟩
theorem by8_bd {r : Rc} (h : ckR r = 0) (i : Nat) (_ : i < 8) : 0 ≤ by8 r i ∧ by8 r i < 256 := by
 obtain ⟨h0, h1⟩ := ckR_bd h
 have := chk_bd h1
 unfold by8
 split <;> omega
theorem by9_bd {r : Rc} (h : ckR r = 0) (i : Nat) : 0 ≤ by9 r i ∧ by9 r i < 256 := by
 unfold by9
 split
 ·exact by8_bd h i ‹_›
 ·omega
theorem rd_by {r : Rc} : rdR (by9 r) = r := by
 refine Rc.ext' rfl (Od.ext' rfl ?_ rfl rfl rfl rfl)
 show r.o.now / 256 * 256 + r.o.now % 256 = r.o.now
 omega
theorem sm_by {r : Rc} : sm (by9 r) 8 = sm (by8 r) 8 := sm_congr 8 (fun i hi => by simp [by9, hi])
theorem dec_by {r : Rc} (h : ckR r = 0) {n : Nat} (hn : 9 ≤ n) {f : Nat → Int} (hf : ∀ i, i < 9 → f i = by9 r i) : dec n f = (r, 0) := by
 have e1 : rdR f = r := by
  rw [← rd_by (r := r)]
  unfold rdR
  rw [hf 0 (by omega), hf 1 (by omega), hf 2 (by omega), hf 3 (by omega), hf 4 (by omega), hf 5 (by omega), hf 6 (by omega), hf 7 (by omega)]
 have e2 : sm f 8 = sm (by8 r) 8 := by rw [← sm_by]; exact sm_congr 8 (fun i hi => hf i (by omega))
 have e3 : f 8 = sm (by8 r) 8 % 251 := by rw [hf 8 (by omega)]; simp [by9]
 unfold dec
 rw [if_neg (by omega), e1, e2, e3, if_neg (by simp), if_neg (by simp [h])]
def Byt (w : World) (a : Option Addr) (n : Nat) (f : Nat → Int) : Prop :=
 (∀ i, i < n → 0 ≤ f i ∧ f i < 256) ∧ (n = 0 ∨ ∃ b off, a = some ⟨b, off, none⟩ ∧ b < w.heap.size ∧ ∀ i, i < n → w.cell? ⟨b, off + i, none⟩ = some (.int .u8 (f i)))
theorem Chg.cell' {bs : List Nat} {w w' : World} (h : Chg bs w w') {p : Addr} (hp : p.block < w.heap.size) (hb : p.block ∉ bs) : w'.cell? p = w.cell? p := World.cell?_of_block (w := w) (h.block p.block hp hb)
theorem Byt.chg {w w' : World} {a : Option Addr} {n : Nat} {f : Nat → Int} (h : Byt w a n f) (k : Chg [] w w') : Byt w' a n f := by
 obtain ⟨h1, h2⟩ := h
 refine ⟨h1, ?_⟩
 rcases h2 with h2 | ⟨b, off, e, hb, hc⟩
 ·exact .inl h2
 ·exact .inr ⟨b, off, e, Nat.lt_of_lt_of_le hb k.size, fun i hi => by rw [k.cell' hb (by simp)]; exact hc i hi⟩
theorem Byt.congr {w : World} {a : Option Addr} {n : Nat} {f g : Nat → Int} (h : Byt w a n f) (e : ∀ i, i < n → f i = g i) : Byt w a n g :=
 ⟨fun i hi => e i hi ▸ h.1 i hi, h.2.imp id (fun ⟨b, off, ea, hb, hc⟩ => ⟨b, off, ea, hb, fun i hi => e i hi ▸ hc i hi⟩)⟩
theorem cck_any (r : Rc) (w : World) :
  Calls Tryz.prog 129 #[.agg r.cells] w fun e w' => e = .returned (.int .i64 (ckR r)) ∧ Chg [] w w' := by
 obtain ⟨ep, ⟨k, now, jb, tr, wk, tm⟩⟩ := r
 unfold Rc.cells
 by_cases h1 : ep < 1
 ·have hc : ckR ⟨ep, ⟨k, now, jb, tr, wk, tm⟩⟩ = 3 := by simp [ckR, h1]
  have HC := hide hc
  clear hc
  go_enter Tryz.func129, Tryz.ntmps129
  go_wp2_with fail
  go_ret
  exact ⟨by rw [unhide HC]; rfl, (Chg.refl _ _).alloc _⟩
 ·by_cases h2 : 100 < ep
  ·have hc : ckR ⟨ep, ⟨k, now, jb, tr, wk, tm⟩⟩ = 3 := by simp [ckR, h2]
   have HC := hide hc
   clear hc
   go_enter Tryz.func129, Tryz.ntmps129
   go_wp2_with fail
   go_ret
   exact ⟨by rw [unhide HC]; rfl, (Chg.refl _ _).alloc _⟩
  ·have hc : ckR ⟨ep, ⟨k, now, jb, tr, wk, tm⟩⟩ = chk ⟨k, now, jb, tr, wk, tm⟩ := by simp [ckR, h1, h2]
   have HC := hide hc
   clear hc
   go_enter Tryz.func129, Tryz.ntmps129
   go_wp2_with fail
   refine (check_any ⟨k, now, jb, tr, wk, tm⟩ _).mono ?_
   rintro e w1 ⟨rfl, g1⟩
   go_wp2
   go_ret
   exact ⟨by rw [unhide HC]; rfl, ((Chg.refl _ _).alloc _).trans g1 (by simp)⟩
theorem csum_any (a : Option Addr) (cap : Nat) (f : Nat → Int) (w : World) (h : Byt w a 8 f) :
  Calls Tryz.prog 127 #[.slice a 8 cap] w fun e w' => e = .returned (.int .u8 (sm f 8 % 251)) ∧ w' = w := by
 obtain ⟨hf, h | ⟨b, off, rfl, hb, hc⟩⟩ := h
 ·omega
 have HF := hide hf
 have HC := hide hc
 clear hf hc
 go_enter Tryz.func127, Tryz.ntmps127
 go_wp2
 go_loop [3, 8] (fun n i => ∃ k : Nat, k ≤ 8 ∧ i = .int .i64 k ∧ n = .int .i64 (sm f k)) (fun _ i => 8 - (intOf i).toNat)
 case atStart => exact ⟨0, by omega, rfl, rfl⟩
 case round =>
  obtain ⟨k, hk, rfl, rfl⟩ := hrel
  have sb := sm_bd f (unhide HF) k hk
  obtain ⟨s0, s1⟩ := sb
  by_cases hlt : k < 8
  ·obtain ⟨f0, f1⟩ := unhide HF k hlt
   obtain ⟨m0, m1⟩ := sm_step f hlt f0 f1
   have hs : sm f (k + 1) = sm f k + f k * ((k : Int) + 1) := rfl
   have HS := hide hs
   clear hs
   have c0 := unhide HC k hlt
   go_wp2
   go_round
   case rel => exact ⟨k + 1, by omega, by go_num, by rw [unhide HS]⟩
   case measure => simp [intOf]; omega
  ·obtain rfl : k = 8 := by omega
   go_wp2
   go_ret
   exact ⟨rfl, rfl⟩
theorem wrap_byte {x : Int} (h0 : 0 ≤ x) (h1 : x < 256) : IntKind.i64.wrap x = x := by
 simp [IntKind.wrap, IntKind.bits, IntKind.signed]
 omega
theorem or_byte {x y : Int} (hx : 0 ≤ x) (hx' : x < 256) (hy : 0 ≤ y) (hy' : y < 256) : bits BinOp.or IntKind.i64 (IntKind.i64.wrap (x * 256)) y = x * 256 + y := by
 obtain ⟨X, rfl⟩ : ∃ X : Nat, x = X := ⟨x.toNat, by omega⟩
 obtain ⟨Y, rfl⟩ : ∃ Y : Nat, y = Y := ⟨y.toNat, by omega⟩
 have e1 : IntKind.i64.wrap ((X : Int) * 256) = ((X * 256 : Nat) : Int) := by
  simp [IntKind.wrap, IntKind.bits, IntKind.signed]
  omega
 have e2 : X <<< 8 + Y = X <<< 8 ||| Y := Nat.shiftLeft_add_eq_or_of_lt (by omega) X
 have e3 : X <<< 8 = X * 256 := by rw [Nat.shiftLeft_eq]
 have e4 : (BitVec.ofInt 64 ((X * 256 : Nat) : Int) ||| BitVec.ofInt 64 (Y : Int)).toNat = X * 256 + Y := by
  rw [BitVec.ofInt_natCast, BitVec.ofInt_natCast, BitVec.toNat_or, BitVec.toNat_ofNat, BitVec.toNat_ofNat, Nat.mod_eq_of_lt (by omega), Nat.mod_eq_of_lt (by omega), ← e3, ← e2]
 rw [e1]
 show IntKind.i64.wrap (((BitVec.ofInt 64 ((X * 256 : Nat) : Int) ||| BitVec.ofInt 64 (Y : Int)).toNat : Nat) : Int) = _
 rw [e4]
 simp [IntKind.wrap, IntKind.bits, IntKind.signed]
 omega
theorem recInfo : (Tryz.prog.info? 110).map (·.size) = some 7 := by kernel_rfl
theorem recRow : ∃ d, Tryz.prog.underlying 110 = some d ∧ d.isRow = true := ⟨_, Tryz.underlying110, rfl⟩
theorem load_rec {w : World} {b : Nat} {ty' : TypeId} {r : Rc} (h : Blk w b r.cells ty') : (loadVar 110 ⟨b, 0, none⟩).run Tryz.prog w = .ok (.agg r.cells) w := by
 obtain ⟨d, hu, hd⟩ := recRow
 have hc : w.rangeAt b 0 r.cells.toList := fun j v hv => by rw [Nat.zero_add, h.cell]; simpa using hv
 exact run_loadVar_mid (P := Tryz.prog) w b 0 110 r.cells.toList d hc hu hd (by rw [recInfo]; rfl)
theorem ret_rec {fn : Func} {p : Tmp} (h : fn.results = #[.cell p 110]) {tmps : Array Value} {w : World} {b : Nat}
  (hp : tmps.getD p undef = .pointer (some ⟨b, 0, none⟩)) {ty' : TypeId} {r : Rc} (hT : Blk w b r.cells ty') : (results fn tmps).run Tryz.prog w = .ok (.agg r.cells) w := by
 have hl := load_rec hT
 have hp' : tmps[p]?.getD undef = .pointer (some ⟨b, 0, none⟩) := by simpa using hp
 simp only [results, h]
 simp [hp', asAddr, hl]
theorem Rc.size_cells (r : Rc) : r.cells.size = 7 := rfl
theorem Blk.setRec {w : World} {b : Nat} {r : Rc} {ty : TypeId} (h : Blk w b r.cells ty) (q : Rc) : Blk (w.setCells b 0 q.cells.toList) b q.cells ty := by
 obtain ⟨c', h1, h2, h3⟩ := setCells_raw b ty q.cells.toList 0 w r.cells h
 have : c' = q.cells := by
  apply Array.ext_getElem?
  intro i
  rw [h3 i]
  by_cases hi : i < 7
  ·rw [if_pos ⟨Nat.zero_le _, by simpa [Rc.size_cells] using hi, by simpa [Rc.size_cells] using hi⟩]; simp
  ·rw [if_neg (by rw [Rc.size_cells]; omega), Array.getElem?_eq_none (by rw [Rc.size_cells]; omega), Array.getElem?_eq_none (by rw [Rc.size_cells]; omega)]
 subst this
 exact h1
theorem wpList_store_rec {ops : Array Oper} {rest : List Oper} {op : Oper} {a : Act} {w : World} {Q : Exit → Act → World → Prop}
  (hgd : op.guard = none) (x y : Operand) (ho : op.op = .store 110 x y) (b : Nat) (hx : a.eval x = .pointer (some ⟨b, 0, none⟩)) (q : Rc) (hy : a.eval y = .agg q.cells) (ty' : TypeId) (r : Rc) (h : Blk w b r.cells ty')
  (k : ∀ w', Blk w' b q.cells ty' → Chg [b] w w' → w'.heap.size = w.heap.size → wpList Tryz.prog ops Q rest (a.put op.dst undef) w') : wpList Tryz.prog ops Q (op :: rest) a w := by
 refine wpList_store_mid hgd 110 x y ho b 0 q.cells hx hy (fun j hj => ⟨?_, ?_⟩) (by rw [recInfo]; rfl) (by simp [Rc.cells, Value.oneCell']) (k _ ?_ ((Chg.refl _ _).setAll (by simp) _ _) (setCells_others b _ 0 w).2.2.2.1)
 ·rw [Nat.zero_add, h.cell]; simpa [Rc.cells] using hj
 ·rw [h.fz]
 ·exact Blk.setRec h q
set_option maxRecDepth 100000 in
set_option maxHeartbeats 4000000 in
theorem read_any (a : Option Addr) (n cap : Nat) (f : Nat → Int) (w : World) (hn : 9 ≤ n) (h : Byt w a n f) :
  Calls Tryz.prog 128 #[.slice a n cap] w fun e w' => e = .returned (.agg (rdR f).cells) ∧ Chg [] w w' := by
 obtain ⟨hf, h | ⟨b, off, rfl, hb, hc⟩⟩ := h
 ·omega
 have c0 : w.cell? ⟨b, off, none⟩ = some (.int .u8 (f 0)) := hc 0 (by omega)
 have c1 := hc 1 (by omega)
 have c2 := hc 2 (by omega)
 have c3 := hc 3 (by omega)
 have c4 := hc 4 (by omega)
 have c5 := hc 5 (by omega)
 have c6 := hc 6 (by omega)
 have c7 := hc 7 (by omega)
 obtain ⟨l0, u0⟩ := hf 0 (by omega)
 obtain ⟨l1, u1⟩ := hf 1 (by omega)
 obtain ⟨l2, u2⟩ := hf 2 (by omega)
 obtain ⟨l3, u3⟩ := hf 3 (by omega)
 obtain ⟨l4, u4⟩ := hf 4 (by omega)
 obtain ⟨l5, u5⟩ := hf 5 (by omega)
 obtain ⟨l6, u6⟩ := hf 6 (by omega)
 obtain ⟨l7, u7⟩ := hf 7 (by omega)
 have n0 : 0 < n := by omega
 have n1 : (1 : Int) < n := by omega
 have n2 : (2 : Int) < n := by omega
 have n3 : (3 : Int) < n := by omega
 have n4 : (4 : Int) < n := by omega
 have n5 : (5 : Int) < n := by omega
 have n6 : (6 : Int) < n := by omega
 have n7 : (7 : Int) < n := by omega
 clear hc hf hn
 unfold rdR Rc.cells
 simp only
 generalize f 0 = f0 at *
 generalize f 1 = f1 at *
 generalize f 2 = f2 at *
 generalize f 3 = f3 at *
 generalize f 4 = f4 at *
 generalize f 5 = f5 at *
 generalize f 6 = f6 at *
 generalize f 7 = f7 at *
 go_enter Tryz.func128, Tryz.ntmps128
 go_wp2_with fail
 have A := Blk.new w #[.int .i64 0, .int .i64 0, .int .i64 0, .int .i64 0, .int .i64 0, .int .i64 0, .int .i64 0] 110
 have G := (Chg.refl [] w).alloc (.cells #[.int .i64 0, .int .i64 0, .int .i64 0, .int .i64 0, .int .i64 0, .int .i64 0, .int .i64 0] 110)
 have e0 := c0
 rw [← G.cell' (p := ⟨b, off, none⟩) hb (by simp)] at c0
 rw [← G.cell' (p := ⟨b, off + 1, none⟩) hb (by simp)] at c1
 rw [← G.cell' (p := ⟨b, off + 2, none⟩) hb (by simp)] at c2
 rw [← G.cell' (p := ⟨b, off + 3, none⟩) hb (by simp)] at c3
 rw [← G.cell' (p := ⟨b, off + 4, none⟩) hb (by simp)] at c4
 rw [← G.cell' (p := ⟨b, off + 5, none⟩) hb (by simp)] at c5
 rw [← G.cell' (p := ⟨b, off + 6, none⟩) hb (by simp)] at c6
 rw [← G.cell' (p := ⟨b, off + 7, none⟩) hb (by simp)] at c7
 have hbR : ¬ b = w.heap.size := by omega
 have HA := hide A
 have HG := hide G
 clear A G e0
 generalize w.alloc (.cells #[.int .i64 0, .int .i64 0, .int .i64 0, .int .i64 0, .int .i64 0, .int .i64 0, .int .i64 0] 110) = W at *
 refine wp_region_still_tail 36 (by kernel_rfl) (by kernel_rfl) ?_
 simp only [List.take_succ_cons, List.take_zero, List.drop_succ_cons, List.drop_zero]
 obtain ⟨V, hV⟩ : ∃ V : World, V = { W with drawn := W.drawn + 1 } := ⟨_, rfl⟩
 rw [← hV]
 have gV : Chg [] w V := by rw [hV]; exact (unhide HG).drew
 have AV := hide (show Blk V w.heap.size _ _ by rw [hV]; exact unhide HA)
 have d0 : V.cell? ⟨b, off, none⟩ = some (.int .u8 f0) := by rw [hV]; exact c0
 have d1 : V.cell? ⟨b, off + 1, none⟩ = some (.int .u8 f1) := by rw [hV]; exact c1
 have d2 : V.cell? ⟨b, off + 2, none⟩ = some (.int .u8 f2) := by rw [hV]; exact c2
 have d3 : V.cell? ⟨b, off + 3, none⟩ = some (.int .u8 f3) := by rw [hV]; exact c3
 have d4 : V.cell? ⟨b, off + 4, none⟩ = some (.int .u8 f4) := by rw [hV]; exact c4
 have d5 : V.cell? ⟨b, off + 5, none⟩ = some (.int .u8 f5) := by rw [hV]; exact c5
 have d6 : V.cell? ⟨b, off + 6, none⟩ = some (.int .u8 f6) := by rw [hV]; exact c6
 have d7 : V.cell? ⟨b, off + 7, none⟩ = some (.int .u8 f7) := by rw [hV]; exact c7
 clear hV HA HG c0 c1 c2 c3 c4 c5 c6 c7
 have v0 : IntKind.i64.wrap f0 = f0 := wrap_byte l0 u0
 have v1 : IntKind.i64.wrap f1 = f1 := wrap_byte l1 u1
 have v2 : IntKind.i64.wrap f2 = f2 := wrap_byte l2 u2
 have v3 : IntKind.i64.wrap f3 = f3 := wrap_byte l3 u3
 have v4 : IntKind.i64.wrap f4 = f4 := wrap_byte l4 u4
 have v5 : IntKind.i64.wrap f5 = f5 := wrap_byte l5 u5
 have v6 : IntKind.i64.wrap f6 = f6 := wrap_byte l6 u6
 have v7 : IntKind.i64.wrap f7 = f7 := wrap_byte l7 u7
 repeat still_step
 refine wpStill_nil ?_
 rw [or_byte l2 u2 l3 u3]
 refine wpList_store_rec rfl _ _ rfl w.heap.size rfl ⟨f0, ⟨f1, f2 * 256 + f3, f4, f5, f6, f7⟩⟩ rfl 110 rc0 (unhide AV) ?_
 intro w2 B2 g2 _
 go_wp2_with fail
 exact bodyPost_ret (ret_rec Tryz.results128 rfl B2) rfl ⟨rfl, gV.trans g2 (by simp)⟩
set_option maxRecDepth 100000 in
theorem enc_no (r : Rc) (w : World) (h : ckR r ≠ 0) :
  Calls Tryz.prog 150 #[.agg r.cells] w fun e w' => e = .returned (.tuple #[.slice none 0 0, .int .i64 (ckR r)]) ∧ Chg [] w w' := by
 have hb : (ckR r == 0) = false := by simpa using h
 go_enter Tryz.func150, Tryz.ntmps150
 unfold Rc.cells
 go_wp2_with fail
 refine (cck_any r _).mono ?_
 rintro e w1 ⟨rfl, g1⟩
 have G1 : Chg [] w w1 := ((Chg.refl _ _).alloc _).trans g1 (by simp)
 clear g1
 go_wp2
 go_ret2
 exact ⟨by simp, G1⟩
theorem u8Info : (Tryz.prog.info? 5).map (fun i => (i.zero, i.size, i.bytes)) = some (some (.int .u8 0), 1, 1) := by kernel_rfl
theorem enc_f1 {w1 w2 : World} {b : Nat} {ep v0 v1 v2 v3 v4 v5 : Value} {t : TypeId} (hg : (w1.alloc (.cells #[v0, v1, v2, v3, v4, v5] t)).grownBy w2 none) (h0 : w1.cell? ⟨b, 0, none⟩ = some ep) (hb : b < w1.heap.size) :
  w2.cell? ⟨b, 0, none⟩ = some ep ∧ w2.cell? ⟨w1.heap.size, 0, none⟩ = some v0 ∧ w2.cell? ⟨w1.heap.size, 1, none⟩ = some v1 ∧ w2.cell? ⟨w1.heap.size, 2, none⟩ = some v2 ∧ w2.cell? ⟨w1.heap.size, 3, none⟩ = some v3 ∧ w2.cell? ⟨w1.heap.size, 4, none⟩ = some v4 ∧ w2.cell? ⟨w1.heap.size, 5, none⟩ = some v5 := by
 have A := Blk.new w1 #[v0, v1, v2, v3, v4, v5] t
 obtain ⟨c0, c1, c2, c3, c4, c5⟩ := A.six
 refine ⟨hg.cell ?_ (by simp), hg.cell c0 (by simp), hg.cell c1 (by simp), hg.cell c2 (by simp), hg.cell c3 (by simp), hg.cell c4 (by simp), hg.cell c5 (by simp)⟩
 rw [World.cell?_of_block (w := w1) (Below.heap_alloc w1 _ b hb)]
 exact h0
theorem Blk.news {w : World} {b : Nat} {c : Array Value} {t : TypeId} (h : Blk w b c t) : ∀ (j : Nat) (u : Value), c.toList[j]? = some u → w.cell? ((⟨b, 0, none⟩ : Addr).add j) = some u := by
 intro j u hj
 have e : ((⟨b, 0, none⟩ : Addr).add j) = ⟨b, j, none⟩ := by simp [Addr.add]; omega
 rw [e, h.cell]
 simpa using hj
theorem enc_f2 {w2 w3 : World} {o : Obj} {g : Nat} (hg : (w2.alloc o).grownBy w3 (some g)) {b i : Nat} {v : Value} (h : w2.cell? ⟨b, i, none⟩ = some v) (hb : b ≠ g) : w3.cell? ⟨b, i, none⟩ = some v := by
 have hl : b < w2.heap.size := World.block_lt_of_cell? w2 ⟨b, i, none⟩ h
 refine hg.cell ?_ (by simpa using hb)
 rw [World.cell?_of_block (w := w2) (Below.heap_alloc w2 _ b hl)]
 exact h
theorem own_blk {w : World} {base : Nat} {e : TypeId} {g n : Nat} {xs : List Value} (h : w.ownsRow base e 1 (.slice (some ⟨g, 0, none⟩) n n) n xs) : Blk w g xs.toArray e ∧ base ≤ g := by
 obtain ⟨hl, h | ⟨g', cap, cur, e1, hb, hh, _, _, hs, ht⟩⟩ := h
 ·simp at h
 ·simp at e1
  obtain ⟨rfl, rfl⟩ := e1
  refine ⟨?_, hb⟩
  have : cur = xs.toArray := by
   rw [← ht, List.take_of_length_le (by simp [hs])]
  rw [← this]
  exact hh
theorem own_byt {w : World} {base : Nat} {e : TypeId} {g n cap : Nat} {xs : List Value} (h : w.ownsRow base e 1 (.slice (some ⟨g, 0, none⟩) n cap) n xs) {f : Nat → Int} (hf : ∀ i, i < n → 0 ≤ f i ∧ f i < 256) (hx : ∀ i, i < n → xs[i]? = some (.int .u8 (f i))) :
  Byt w (some ⟨g, 0, none⟩) n f := by
 have hlt := (h.lt g rfl).2
 refine ⟨hf, .inr ⟨g, 0, rfl, hlt, fun i hi => ?_⟩⟩
 have := h.cells (g := g) rfl i _ (hx i hi)
 have e : ((⟨g, 0, none⟩ : Addr).add i) = ⟨g, 0 + i, none⟩ := by simp [Addr.add]; omega
 rw [e] at this
 exact this
theorem Chg.grown {bs : List Nat} {a w w' : World} {row : Option Nat} (h : Chg bs a w) (hg : w.grownBy w' row) (hr : ∀ k, row = some k → k ∈ bs ∨ a.heap.size ≤ k) : Chg bs a w' :=
 ⟨hg.os.trans h.os, hg.tape.trans h.tape, hg.output.trans h.output, Nat.le_trans h.size hg.size, fun k hk hn => by
  rw [hg.block k (Nat.lt_of_lt_of_le hk h.size) (fun e => (hr k e.symm).elim hn (fun h1 => by omega))]
  exact h.block k hk hn⟩
theorem by8_list (r : Rc) (i : Nat) (hi : i < 8) : ([Value.int .u8 r.ep, .int .u8 r.o.k, .int .u8 (r.o.now / 256), .int .u8 (r.o.now % 256), .int .u8 r.o.jb, .int .u8 r.o.tr, .int .u8 r.o.wk, .int .u8 r.o.tm])[i]? = some (.int .u8 (by8 r i)) := by
 obtain rfl | rfl | rfl | rfl | rfl | rfl | rfl | rfl : i = 0 ∨ i = 1 ∨ i = 2 ∨ i = 3 ∨ i = 4 ∨ i = 5 ∨ i = 6 ∨ i = 7 := by omega
 all_goals rfl
set_option maxRecDepth 100000 in
set_option maxHeartbeats 4000000 in
theorem enc_yes (r : Rc) (w : World) (h : ckR r = 0) :
  Calls Tryz.prog 150 #[.agg r.cells] w fun e w' => ∃ g, e = .returned (.tuple #[.slice (some ⟨g, 0, none⟩) 9 9, .int .i64 0]) ∧ w.heap.size ≤ g ∧
   Blk w' g #[.int .u8 (by9 r 0), .int .u8 (by9 r 1), .int .u8 (by9 r 2), .int .u8 (by9 r 3), .int .u8 (by9 r 4), .int .u8 (by9 r 5), .int .u8 (by9 r 6), .int .u8 (by9 r 7), .int .u8 (by9 r 8)] 5 ∧ Chg [] w w' := by
 obtain ⟨⟨p0, p1⟩, ho⟩ := ckR_bd h
 obtain ⟨⟨k0, k1⟩, ⟨n0, n1⟩, ⟨j0, j1⟩, ⟨t0, t1⟩, ⟨v0, v1⟩, m0, m1⟩ := chk_bd ho
 obtain ⟨i0, hi, hz0, hz1, hz2⟩ := info_parts u8Info
 clear ho
 have HH := hide h
 clear h
 go_enter Tryz.func150, Tryz.ntmps150
 unfold Rc.cells
 go_wp2_with fail
 refine (cck_any r _).mono ?_
 rintro e w1 ⟨rfl, g1⟩
 have G1 : Chg [] w w1 := ((Chg.refl _ _).alloc _).trans g1 (by simp)
 rw [unhide HH]
 have A1 := (Blk.new w r.cells 110).chg g1 (by simp)
 obtain ⟨a0, a1, a2, a3, a4, a5, a6⟩ : w1.cell? ⟨w.heap.size, 0, none⟩ = some (.int .i64 r.ep) ∧ w1.cell? ⟨w.heap.size, 1, none⟩ = some (.int .i64 r.o.k) ∧ w1.cell? ⟨w.heap.size, 2, none⟩ = some (.int .i64 r.o.now) ∧ w1.cell? ⟨w.heap.size, 3, none⟩ = some (.int .i64 r.o.jb) ∧ w1.cell? ⟨w.heap.size, 4, none⟩ = some (.int .i64 r.o.tr) ∧ w1.cell? ⟨w.heap.size, 5, none⟩ = some (.int .i64 r.o.wk) ∧ w1.cell? ⟨w.heap.size, 6, none⟩ = some (.int .i64 r.o.tm) :=
  ⟨A1.cell 0, A1.cell 1, A1.cell 2, A1.cell 3, A1.cell 4, A1.cell 5, A1.cell 6⟩
 have s1 : w.heap.size < w1.heap.size := A1.lt
 clear A1 g1
 have tok : True := trivial
 go_wp2_with (first
  | (refine wpList_make_own _ rfl _ _ 42 rfl w.heap.size 5 i0 (.int .u8 0) 1 Tryz.underlying42 hi hz0 hz1 .i64 .i64 9 9 rfl rfl rfl (by rw [hz2]; decide) (by unfold maxLen; omega) (by simp; omega) ?_; intro w2 own2 gr2; have _t := tok; clear tok; obtain ⟨b0, e0, e1, e2, e3, e4, e5⟩ := enc_f1 gr2 a0 s1; clear a0 a1 a2 a3 a4 a5 a6; have GR2 := hide gr2; clear gr2; simp only [World.size_alloc] at own2; have z2 : w1.heap.size + 1 < w2.heap.size := (own2.lt _ rfl).2)
  | (at_builtin; refine wpList_append_fits _ rfl (.tmp 15) (.tmp 29) 42 rfl w.heap.size 5 i0 1 Tryz.underlying42 hi hz1 (w1.heap.size + 1) 0 9 [] rfl (own2.alloc _) ⟨w2.heap.size, 0, none⟩ 4 4 [.int .u8 r.ep, .int .u8 r.o.k, .int .u8 (r.o.now / 256), .int .u8 (r.o.now % 256)] rfl rfl (Blk.new _ _ _).news (by simp [Value.oneCell']) (by omega) ?_; intro w3 own3 gr3; clear own2; simp only [Nat.zero_add, List.nil_append] at own3; have d2 := enc_f2 gr3 e2 (by omega); have d3 := enc_f2 gr3 e3 (by omega); have d4 := enc_f2 gr3 e4 (by omega); have d5 := enc_f2 gr3 e5 (by omega); clear b0 e0 e1 e2 e3 e4 e5; have GR3 := hide gr3; clear gr3)
  | (at_builtin; refine wpList_append_fits _ rfl (.tmp 31) (.tmp 44) 42 rfl w.heap.size 5 i0 1 Tryz.underlying42 hi hz1 (w1.heap.size + 1) 4 9 _ rfl (own3.alloc _) ⟨w3.heap.size, 0, none⟩ 4 4 [.int .u8 r.o.jb, .int .u8 r.o.tr, .int .u8 r.o.wk, .int .u8 r.o.tm] rfl rfl (Blk.new _ _ _).news (by simp [Value.oneCell']) (by omega) ?_; intro w4 own4 gr4; clear own3 d2 d3 d4 d5; simp only [Nat.reduceAdd, List.cons_append, List.nil_append] at own4; have GR4 := hide gr4; clear gr4)
  | (go_at_call 127; refine (csum_any _ _ (by8 r) _ (own_byt own4 (by8_bd (unhide HH)) (by8_list r))).mono ?_; rintro e w5 ⟨rfl, rfl⟩)
  | (at_builtin; refine wpList_append_fits _ rfl (.tmp 46) (.tmp 49) 42 rfl w.heap.size 5 i0 1 Tryz.underlying42 hi hz1 (w1.heap.size + 1) 8 9 _ rfl (own4.alloc _) ⟨_, 0, none⟩ 1 1 [.int .u8 (sm (by8 r) 8 % 251)] rfl rfl (Blk.new _ _ _).news (by simp [Value.oneCell']) (by omega) ?_; intro w6 own6 gr6; simp only [Nat.reduceAdd, List.cons_append, List.nil_append] at own6; have GR6 := hide gr6; clear gr6))
 go_ret2
 have zz : w.heap.size ≤ w1.heap.size + 1 := by omega
 have hr : ∀ k, some (w1.heap.size + 1) = some k → k ∈ ([] : List Nat) ∨ w.heap.size ≤ k := fun k hk => .inr (by simp at hk; omega)
 refine ⟨w1.heap.size + 1, by simp, zz, (own_blk own6).1, ?_⟩
 exact (((((((G1.alloc _).grown (unhide GR2) (by simp)).alloc _).grown (unhide GR3) hr).alloc _).grown (unhide GR4) hr).alloc _).grown (unhide GR6) hr
end Go.Proofs.YtllnjiljjodfdacGreatDoor
