/-
  What codec.read does. Nothing here is claimed by itself.
-/
import Derived.Test.YtdppeddiffjamaaC1
import Derived.StillTailTactics
namespace Go.Proofs.Ytdppeddiffjamaa
open Go.RowKit

theorem wrap_byte {x : Int} (h0 : 0 ≤ x) (h1 : x < 256) : IntKind.i64.wrap x = x := by
  simp [IntKind.wrap, IntKind.bits, IntKind.signed]
  omega

theorem or_byte {x y : Int} (hx : 0 ≤ x) (hx' : x < 256) (hy : 0 ≤ y) (hy' : y < 256) : bits BinOp.or IntKind.i64 (IntKind.i64.wrap (x * 256)) y = x * 256 + y := by
  obtain ⟨X, rfl⟩ : ∃ X : Nat, x = X := ⟨x.toNat, by omega⟩
  obtain ⟨Y, rfl⟩ : ∃ Y : Nat, y = Y := ⟨y.toNat, by omega⟩
  have e1 : IntKind.i64.wrap ((X : Int) * 256) = ((X * 256 : Nat) : Int) := by
    simp [IntKind.wrap, IntKind.bits, IntKind.signed]
    omega
  have e2 : X <<< 8 + Y = X <<< 8 ||| Y := Nat.shiftLeft_add_eq_or_of_lt (by omega) X
  have e3 : X <<< 8 = X * 256 := by rw [Nat.shiftLeft_eq]
  have e4 : (BitVec.ofInt 64 ((X * 256 : Nat) : Int) ||| BitVec.ofInt 64 (Y : Int)).toNat = X * 256 + Y := by
    rw [BitVec.ofInt_natCast, BitVec.ofInt_natCast, BitVec.toNat_or, BitVec.toNat_ofNat, BitVec.toNat_ofNat, Nat.mod_eq_of_lt (by omega), Nat.mod_eq_of_lt (by omega), ← e3, ← e2]
  rw [e1]
  show IntKind.i64.wrap (((BitVec.ofInt 64 ((X * 256 : Nat) : Int) ||| BitVec.ofInt 64 (Y : Int)).toNat : Nat) : Int) = _
  rw [e4]
  simp [IntKind.wrap, IntKind.bits, IntKind.signed]
  omega

theorem recInfo : (Try.prog.info? 48).map (·.size) = some 7 := by kernel_rfl
theorem recRow : ∃ d, Try.prog.underlying 48 = some d ∧ d.isRow = true := ⟨_, Try.underlying48, rfl⟩
theorem load_rec {w : World} {b : Nat} {ty' : TypeId} {r : Rc} (h : Blk w b r.cells ty') : (loadVar 48 ⟨b, 0, none⟩).run Try.prog w = .ok (.agg r.cells) w := by
  obtain ⟨d, hu, hd⟩ := recRow
  have hc : w.rangeAt b 0 r.cells.toList := fun j v hv => by rw [Nat.zero_add, h.cell]; simpa using hv
  exact run_loadVar_mid (P := Try.prog) w b 0 48 r.cells.toList d hc hu hd (by rw [recInfo]; rfl)
/-- A record as a result that lies in memory, alone or with a code. -/
theorem ret_rec {fn : Func} {p : Tmp} (h : fn.results = #[.cell p 48]) {tmps : Array Value} {w : World} {b : Nat}
    (hp : tmps.getD p undef = .pointer (some ⟨b, 0, none⟩)) {ty' : TypeId} {r : Rc} (hT : Blk w b r.cells ty') : (results fn tmps).run Try.prog w = .ok (.agg r.cells) w := by
  have hl := load_rec hT
  have hp' : tmps[p]?.getD undef = .pointer (some ⟨b, 0, none⟩) := by simpa using hp
  simp only [results, h]
  simp [hp', asAddr, hl]
theorem Rc.size_cells (r : Rc) : r.cells.size = 7 := rfl
theorem Blk.setRec {w : World} {b : Nat} {r : Rc} {ty : TypeId} (h : Blk w b r.cells ty) (q : Rc) : Blk (w.setCells b 0 q.cells.toList) b q.cells ty := by
  obtain ⟨c', h1, h2, h3⟩ := setCells_raw b ty q.cells.toList 0 w r.cells h
  have : c' = q.cells := by
    apply Array.ext_getElem?
    intro i
    rw [h3 i]
    by_cases hi : i < 7
    · rw [if_pos ⟨Nat.zero_le _, by simpa [Rc.size_cells] using hi, by simpa [Rc.size_cells] using hi⟩]; simp
    · rw [if_neg (by rw [Rc.size_cells]; omega), Array.getElem?_eq_none (by rw [Rc.size_cells]; omega), Array.getElem?_eq_none (by rw [Rc.size_cells]; omega)]
  subst this
  exact h1
/-- A whole record is written over another one, as a law of the walk. -/
theorem wpList_store_rec {ops : Array Oper} {rest : List Oper} {op : Oper} {a : Act} {w : World} {Q : Exit → Act → World → Prop}
    (hgd : op.guard = none) (x y : Operand) (ho : op.op = .store 48 x y) (b : Nat) (hx : a.eval x = .pointer (some ⟨b, 0, none⟩)) (q : Rc) (hy : a.eval y = .agg q.cells) (ty' : TypeId) (r : Rc) (h : Blk w b r.cells ty')
    (k : ∀ w', Blk w' b q.cells ty' → Chg [b] w w' → w'.heap.size = w.heap.size → wpList Try.prog ops Q rest (a.put op.dst undef) w') : wpList Try.prog ops Q (op :: rest) a w := by
  refine wpList_store_mid hgd 48 x y ho b 0 q.cells hx hy (fun j hj => ⟨?_, ?_⟩) (by rw [recInfo]; rfl) (by simp [Rc.cells, Value.oneCell']) (k _ ?_ ((Chg.refl _ _).setAll (by simp) _ _) (setCells_others b _ 0 w).2.2.2.1)
  · rw [Nat.zero_add, h.cell]; simpa [Rc.cells] using hj
  · rw [h.fz]
  · exact Blk.setRec h q

set_option maxRecDepth 100000 in
set_option maxHeartbeats 4000000 in
theorem read_any (a : Option Addr) (n cap : Nat) (f : Nat → Int) (w : World) (hn : 9 ≤ n) (h : Byt w a n f) :
    Calls Try.prog 44 #[.slice a n cap] w fun e w' => e = .returned (.agg (rdR f).cells) ∧ Chg [] w w' := by
  obtain ⟨hf, h | ⟨b, off, rfl, hb, hc⟩⟩ := h
  · omega
  have c0 : w.cell? ⟨b, off, none⟩ = some (.int .u8 (f 0)) := hc 0 (by omega)
  have c1 := hc 1 (by omega)
  have c2 := hc 2 (by omega)
  have c3 := hc 3 (by omega)
  have c4 := hc 4 (by omega)
  have c5 := hc 5 (by omega)
  have c6 := hc 6 (by omega)
  have c7 := hc 7 (by omega)
  obtain ⟨l0, u0⟩ := hf 0 (by omega)
  obtain ⟨l1, u1⟩ := hf 1 (by omega)
  obtain ⟨l2, u2⟩ := hf 2 (by omega)
  obtain ⟨l3, u3⟩ := hf 3 (by omega)
  obtain ⟨l4, u4⟩ := hf 4 (by omega)
  obtain ⟨l5, u5⟩ := hf 5 (by omega)
  obtain ⟨l6, u6⟩ := hf 6 (by omega)
  obtain ⟨l7, u7⟩ := hf 7 (by omega)
  have n0 : 0 < n := by omega
  have n1 : (1 : Int) < n := by omega
  have n2 : (2 : Int) < n := by omega
  have n3 : (3 : Int) < n := by omega
  have n4 : (4 : Int) < n := by omega
  have n5 : (5 : Int) < n := by omega
  have n6 : (6 : Int) < n := by omega
  have n7 : (7 : Int) < n := by omega
  clear hc hf hn
  unfold rdR Rc.cells
  simp only
  generalize f 0 = f0 at *
  generalize f 1 = f1 at *
  generalize f 2 = f2 at *
  generalize f 3 = f3 at *
  generalize f 4 = f4 at *
  generalize f 5 = f5 at *
  generalize f 6 = f6 at *
  generalize f 7 = f7 at *
  go_enter Try.func44, Try.ntmps44
  go_wp2_with fail
  have A := Blk.new w #[.int .i64 0, .int .i64 0, .int .i64 0, .int .i64 0, .int .i64 0, .int .i64 0, .int .i64 0] 48
  have G := (Chg.refl [] w).alloc (.cells #[.int .i64 0, .int .i64 0, .int .i64 0, .int .i64 0, .int .i64 0, .int .i64 0, .int .i64 0] 48)
  have e0 := c0
  rw [← G.cell' (p := ⟨b, off, none⟩) hb (by simp)] at c0
  rw [← G.cell' (p := ⟨b, off + 1, none⟩) hb (by simp)] at c1
  rw [← G.cell' (p := ⟨b, off + 2, none⟩) hb (by simp)] at c2
  rw [← G.cell' (p := ⟨b, off + 3, none⟩) hb (by simp)] at c3
  rw [← G.cell' (p := ⟨b, off + 4, none⟩) hb (by simp)] at c4
  rw [← G.cell' (p := ⟨b, off + 5, none⟩) hb (by simp)] at c5
  rw [← G.cell' (p := ⟨b, off + 6, none⟩) hb (by simp)] at c6
  rw [← G.cell' (p := ⟨b, off + 7, none⟩) hb (by simp)] at c7
  have hbR : ¬ b = w.heap.size := by omega
  have HA := hide A
  have HG := hide G
  clear A G e0
  generalize w.alloc (.cells #[.int .i64 0, .int .i64 0, .int .i64 0, .int .i64 0, .int .i64 0, .int .i64 0, .int .i64 0] 48) = W at *
  refine wp_region_still_tail 36 (by kernel_rfl) (by kernel_rfl) ?_
  simp only [List.take_succ_cons, List.take_zero, List.drop_succ_cons, List.drop_zero]
  obtain ⟨V, hV⟩ : ∃ V : World, V = { W with drawn := W.drawn + 1 } := ⟨_, rfl⟩
  rw [← hV]
  have gV : Chg [] w V := by rw [hV]; exact (unhide HG).drew
  have AV := hide (show Blk V w.heap.size _ _ by rw [hV]; exact unhide HA)
  have d0 : V.cell? ⟨b, off, none⟩ = some (.int .u8 f0) := by rw [hV]; exact c0
  have d1 : V.cell? ⟨b, off + 1, none⟩ = some (.int .u8 f1) := by rw [hV]; exact c1
  have d2 : V.cell? ⟨b, off + 2, none⟩ = some (.int .u8 f2) := by rw [hV]; exact c2
  have d3 : V.cell? ⟨b, off + 3, none⟩ = some (.int .u8 f3) := by rw [hV]; exact c3
  have d4 : V.cell? ⟨b, off + 4, none⟩ = some (.int .u8 f4) := by rw [hV]; exact c4
  have d5 : V.cell? ⟨b, off + 5, none⟩ = some (.int .u8 f5) := by rw [hV]; exact c5
  have d6 : V.cell? ⟨b, off + 6, none⟩ = some (.int .u8 f6) := by rw [hV]; exact c6
  have d7 : V.cell? ⟨b, off + 7, none⟩ = some (.int .u8 f7) := by rw [hV]; exact c7
  clear hV HA HG c0 c1 c2 c3 c4 c5 c6 c7
  have v0 : IntKind.i64.wrap f0 = f0 := wrap_byte l0 u0
  have v1 : IntKind.i64.wrap f1 = f1 := wrap_byte l1 u1
  have v2 : IntKind.i64.wrap f2 = f2 := wrap_byte l2 u2
  have v3 : IntKind.i64.wrap f3 = f3 := wrap_byte l3 u3
  have v4 : IntKind.i64.wrap f4 = f4 := wrap_byte l4 u4
  have v5 : IntKind.i64.wrap f5 = f5 := wrap_byte l5 u5
  have v6 : IntKind.i64.wrap f6 = f6 := wrap_byte l6 u6
  have v7 : IntKind.i64.wrap f7 = f7 := wrap_byte l7 u7
  repeat still_step
  refine wpStill_nil ?_
  rw [or_byte l2 u2 l3 u3]
  refine wpList_store_rec rfl _ _ rfl w.heap.size rfl ⟨f0, ⟨f1, f2 * 256 + f3, f4, f5, f6, f7⟩⟩ rfl 48 rc0 (unhide AV) ?_
  intro w2 B2 g2 _
  go_wp2_with fail
  exact bodyPost_ret (ret_rec Try.results44 rfl B2) rfl ⟨rfl, gV.trans g2 (by simp)⟩

end Go.Proofs.Ytdppeddiffjamaa
