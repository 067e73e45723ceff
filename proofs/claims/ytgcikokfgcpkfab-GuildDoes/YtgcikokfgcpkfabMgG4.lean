/-
  Steps that came in; a guild's functions at a pointer; guildBegun. Nothing here is claimed by itself.
-/
import Derived.Test.YtgcikokfgcpkfabMgG2
namespace Go.Proofs.Ytgcikokfgcpkfab
open Go.RowKit

def sp0 : Sp := ⟨0, 0, 0, ⟨0, 0, 0, 0, 0, 0⟩⟩
def SpAt (w : World) (bl off : Nat) (s : Sp) : Prop :=
  w.cell? ⟨bl, off, none⟩ = some (.int .i64 s.k) ∧ w.cell? ⟨bl, off + 1, none⟩ = some (.int .i64 s.n) ∧ w.cell? ⟨bl, off + 2, none⟩ = some (.int .i64 s.keep) ∧ w.cell? ⟨bl, off + 3, none⟩ = some (.int .i64 s.o.k) ∧ w.cell? ⟨bl, off + 4, none⟩ = some (.int .i64 s.o.now) ∧
  w.cell? ⟨bl, off + 5, none⟩ = some (.int .i64 s.o.jb) ∧ w.cell? ⟨bl, off + 6, none⟩ = some (.int .i64 s.o.tr) ∧ w.cell? ⟨bl, off + 7, none⟩ = some (.int .i64 s.o.wk) ∧ w.cell? ⟨bl, off + 8, none⟩ = some (.int .i64 s.o.tm)
def Sps (w : World) (a : Option Addr) (len : Nat) (fs : Nat → Sp) : Prop :=
  len = 0 ∨ ∃ bl off, a = some ⟨bl, off, none⟩ ∧ bl < w.heap.size ∧ ∀ i, i < len → SpAt w bl (off + i * 9) (fs i)
theorem SpAt.chg {w w' : World} {bl off : Nat} {s : Sp} (h : SpAt w bl off s) (k : Chg [] w w') (hl : bl < w.heap.size) : SpAt w' bl off s := by
  obtain ⟨h0, h1, h2, h3, h4, h5, h6, h7, h8⟩ := h
  exact ⟨by rw [kCell k hl (by simp)]; exact h0, by rw [kCell k hl (by simp)]; exact h1, by rw [kCell k hl (by simp)]; exact h2, by rw [kCell k hl (by simp)]; exact h3, by rw [kCell k hl (by simp)]; exact h4, by rw [kCell k hl (by simp)]; exact h5, by rw [kCell k hl (by simp)]; exact h6, by rw [kCell k hl (by simp)]; exact h7, by rw [kCell k hl (by simp)]; exact h8⟩

theorem gstep_at (W0 : World) (m : Gm) (s : Gd) (x : Sp) (gb : Nat) (w : World) (h : Gld W0 w m s) (hg : m.gb = gb) :
    Calls Try.prog 42 #[.pointer (some ⟨gb, 0, none⟩), spV x] w fun e w' => e = .returned (ansV (stepG s x).2) ∧ ∃ m', Gnx W0 w m w' m' (stepG s x).1 := by
  subst hg
  exact gstep_any W0 m s x w h
theorem gnode_at (W0 : World) (m : Gm) (s : Gd) (n : Int) (gb : Nat) (w : World) (h : Gld W0 w m s) (hg : m.gb = gb) : Calls Try.prog 45 #[.pointer (some ⟨gb, 0, none⟩), .int .i64 n] w fun e w' => e = .returned (nodeV m s n) ∧ w' = w := by
  subst hg
  exact gnode_any W0 m s n w h
theorem gnow_at (W0 : World) (m : Gm) (s : Gd) (gb : Nat) (w : World) (h : Gld W0 w m s) (hg : m.gb = gb) : Calls Try.prog 44 #[.pointer (some ⟨gb, 0, none⟩)] w fun e w' => e = .returned (.int .i64 s.now) ∧ w' = w := by
  subst hg
  exact gnow_any W0 m s w h
theorem Gld.disk {W0 w : World} {m : Gm} {s : Gd} (h : Gld W0 w m s) {gb : Nat} (hg : m.gb = gb) : w.cell? ⟨gb, 0, none⟩ = some (.pointer (some ⟨m.db, 0, none⟩)) ∧ gb < w.heap.size := by
  subst hg
  exact ⟨h.blk.cell 0, h.blk.lt⟩

def gs0 : Gd := G0
abbrev gx1 : Sp := ⟨1, 1, 0, ⟨0, 0, 0, 0, 0, 0⟩⟩
def gs1 : Gd := (stepG gs0 gx1).1
abbrev gx2 : Sp := ⟨2, 1, 0, ⟨1, 7, 4, 0, 0, 0⟩⟩
def gs2 : Gd := (stepG gs1 gx2).1
abbrev gx3 : Sp := ⟨5, 9, 0, ⟨0, 0, 0, 0, 0, 0⟩⟩
def gs3 : Gd := (stepG gs2 gx3).1
abbrev gx4 : Sp := ⟨1, 2, 0, ⟨0, 0, 0, 0, 0, 0⟩⟩
def gs4 : Gd := (stepG gs3 gx4).1
abbrev gx5 : Sp := ⟨2, 2, 0, ⟨2, 0, 0, 0, 1, 3⟩⟩
def gs5 : Gd := (stepG gs4 gx5).1
abbrev gx6 : Sp := ⟨2, 1, 0, ⟨2, 0, 0, 0, 2, 3⟩⟩
def gs6 : Gd := (stepG gs5 gx6).1
theorem gb1 : (stepG gs0 gx1).2 = ⟨0, 0, 0⟩ := by kernel_rfl
theorem gb2 : (stepG gs1 gx2).2 = ⟨0, 0, 0⟩ := by kernel_rfl
theorem gb3 : (stepG gs2 gx3).2 = ⟨0, 0, 0⟩ := by kernel_rfl
theorem gb4 : (stepG gs3 gx4).2 = ⟨0, 0, 0⟩ := by kernel_rfl
theorem gb5 : (stepG gs4 gx5).2 = ⟨0, 4, 1⟩ := by kernel_rfl
theorem gb6 : (stepG gs5 gx6).2 = ⟨9, 0, 0⟩ := by kernel_rfl
theorem gb7 : gs6.now = 9 ∧ gs6.d.ep = 2 ∧ gs6.d.l.length = 18 := ⟨by kernel_rfl, by kernel_rfl, by kernel_rfl⟩
theorem gb8 : nodeG gs6 0 = none := by kernel_rfl
theorem gb9 : ∃ n, nodeG gs6 2 = some n ∧ jobA n.T 4 = ⟨2, 1, 1, 12⟩ := by
  have h : (nodeG gs6 2).map (fun n => jobA n.T 4) = some ⟨2, 1, 1, 12⟩ := by kernel_rfl
  cases e : nodeG gs6 2 with
  | none => rw [e] at h; cases h
  | some n => rw [e] at h; exact ⟨n, rfl, Option.some.inj h⟩

set_option maxRecDepth 100000 in
set_option maxHeartbeats 4000000 in
theorem gbegun_of (s0 s1 s2 s3 s4 s5 s6 : Gd) (h0 : s0 = G0) (h1 : stepG s0 gx1 = (s1, ⟨0, 0, 0⟩)) (h2 : stepG s1 gx2 = (s2, ⟨0, 0, 0⟩)) (h3 : stepG s2 gx3 = (s3, ⟨0, 0, 0⟩)) (h4 : stepG s3 gx4 = (s4, ⟨0, 0, 0⟩)) (h5 : stepG s4 gx5 = (s5, ⟨0, 4, 1⟩)) (h6 : stepG s5 gx6 = (s6, ⟨9, 0, 0⟩)) (g7 : s6.now = 9) (g8 : s6.d.ep = 2) (g9 : s6.d.l.length = 18) (g10 : nodeG s6 0 = none) (nd : Nd) (hnd : nodeG s6 2 = some nd) (hjb : jobA nd.T 4 = ⟨2, 1, 1, 12⟩) (w : World) : Calls Try.prog 40 #[] w fun e w' => e = .returned (.bool true) ∧ Chg [] w w' := by
  have hfld : ∀ (W : World) (a b c d : Int), (Instr.field 67 (.agg #[.int .i64 a, .int .i64 b, .int .i64 c, .int .i64 d]) 3).run Try.prog W = .ok (.int .i64 d) W := fun W a b c d => by kernel_rfl
  go_enter Try.func40, Try.ntmps40
  go_wp2_with fail
  refine (gnew_any _).mono ?_
  rintro e w1 ⟨m, rfl, C0⟩
  obtain ⟨gb, hgb⟩ : ∃ gb, m.gb = gb := ⟨_, rfl⟩
  rw [hgb]
  rw [← h0] at C0
  have C := C0
  clear C0 h0
  go_wp2_with fail
  refine (gstep_at w m s0 gx1 gb _ C hgb).mono ?_
  rintro e v1 ⟨rfl, m', X⟩
  rw [h1]
  rw [h1] at X
  clear h1
  replace hgb := X.gb.trans hgb
  have k := (Chg.refl [] v1).alloc (.cells #[.int .i64 0, .int .i64 0, .int .i64 0] 56)
  replace C := X.g.fresh k
  have A1 := Blk.new v1 #[.int .i64 0, .int .i64 0, .int .i64 0] 56
  have o1 : grw v1.heap.size m'.own (fun _ => 100) v1.heap.size = 100 := grw_new (Nat.le_refl _)
  replace hgb : ({ m' with own := grw v1.heap.size m'.own (fun _ => 100) } : Gm).gb = gb := hgb
  obtain ⟨mm, hmm⟩ : ∃ mm, mm = ({ m' with own := grw v1.heap.size m'.own (fun _ => 100) } : Gm) := ⟨_, rfl⟩
  replace o1 : mm.own v1.heap.size = 100 := by rw [hmm]; exact o1
  rw [← hmm] at C hgb
  clear hmm X k m m'
  obtain ⟨m, rfl⟩ : ∃ m, m = mm := ⟨_, rfl⟩
  replace C : Gld w _ m s1 := C
  unfold ansV
  go_wp2_with fail
  refine (gstep_at w m s1 gx2 gb _ C hgb).mono ?_
  rintro e v2 ⟨rfl, m', X⟩
  rw [h2]
  rw [h2] at X
  clear h2
  have p1 := X.ow _ A1.lt o1
  replace A1 := X.blk A1 o1
  replace hgb := X.gb.trans hgb
  have k := (Chg.refl [] v2).alloc (.cells #[.int .i64 0, .int .i64 0, .int .i64 0] 56)
  replace C := X.g.fresh k
  have A2 := Blk.new v2 #[.int .i64 0, .int .i64 0, .int .i64 0] 56
  replace o1 := (grw_old (f := fun _ => 100) A1.lt).trans p1
  replace A1 := A1.alloc (.cells #[.int .i64 0, .int .i64 0, .int .i64 0] 56)
  clear p1
  have o2 : grw v2.heap.size m'.own (fun _ => 100) v2.heap.size = 100 := grw_new (Nat.le_refl _)
  replace hgb : ({ m' with own := grw v2.heap.size m'.own (fun _ => 100) } : Gm).gb = gb := hgb
  obtain ⟨mm, hmm⟩ : ∃ mm, mm = ({ m' with own := grw v2.heap.size m'.own (fun _ => 100) } : Gm) := ⟨_, rfl⟩
  replace o1 : mm.own v1.heap.size = 100 := by rw [hmm]; exact o1
  replace o2 : mm.own v2.heap.size = 100 := by rw [hmm]; exact o2
  rw [← hmm] at C hgb
  clear hmm X k m m'
  obtain ⟨m, rfl⟩ : ∃ m, m = mm := ⟨_, rfl⟩
  replace C : Gld w _ m s2 := C
  unfold ansV
  go_wp2_with fail
  refine (gstep_at w m s2 gx3 gb _ C hgb).mono ?_
  rintro e v3 ⟨rfl, m', X⟩
  rw [h3]
  rw [h3] at X
  clear h3
  have p1 := X.ow _ A1.lt o1
  replace A1 := X.blk A1 o1
  have p2 := X.ow _ A2.lt o2
  replace A2 := X.blk A2 o2
  replace hgb := X.gb.trans hgb
  have k := (Chg.refl [] v3).alloc (.cells #[.int .i64 0, .int .i64 0, .int .i64 0] 56)
  replace C := X.g.fresh k
  have A3 := Blk.new v3 #[.int .i64 0, .int .i64 0, .int .i64 0] 56
  replace o1 := (grw_old (f := fun _ => 100) A1.lt).trans p1
  replace A1 := A1.alloc (.cells #[.int .i64 0, .int .i64 0, .int .i64 0] 56)
  clear p1
  replace o2 := (grw_old (f := fun _ => 100) A2.lt).trans p2
  replace A2 := A2.alloc (.cells #[.int .i64 0, .int .i64 0, .int .i64 0] 56)
  clear p2
  have o3 : grw v3.heap.size m'.own (fun _ => 100) v3.heap.size = 100 := grw_new (Nat.le_refl _)
  replace hgb : ({ m' with own := grw v3.heap.size m'.own (fun _ => 100) } : Gm).gb = gb := hgb
  obtain ⟨mm, hmm⟩ : ∃ mm, mm = ({ m' with own := grw v3.heap.size m'.own (fun _ => 100) } : Gm) := ⟨_, rfl⟩
  replace o1 : mm.own v1.heap.size = 100 := by rw [hmm]; exact o1
  replace o2 : mm.own v2.heap.size = 100 := by rw [hmm]; exact o2
  replace o3 : mm.own v3.heap.size = 100 := by rw [hmm]; exact o3
  rw [← hmm] at C hgb
  clear hmm X k m m'
  obtain ⟨m, rfl⟩ : ∃ m, m = mm := ⟨_, rfl⟩
  replace C : Gld w _ m s3 := C
  unfold ansV
  go_wp2_with fail
  refine (gstep_at w m s3 gx4 gb _ C hgb).mono ?_
  rintro e v4 ⟨rfl, m', X⟩
  rw [h4]
  rw [h4] at X
  clear h4
  have p1 := X.ow _ A1.lt o1
  replace A1 := X.blk A1 o1
  have p2 := X.ow _ A2.lt o2
  replace A2 := X.blk A2 o2
  have p3 := X.ow _ A3.lt o3
  replace A3 := X.blk A3 o3
  replace hgb := X.gb.trans hgb
  have k := (Chg.refl [] v4).alloc (.cells #[.int .i64 0, .int .i64 0, .int .i64 0] 56)
  replace C := X.g.fresh k
  have A4 := Blk.new v4 #[.int .i64 0, .int .i64 0, .int .i64 0] 56
  replace o1 := (grw_old (f := fun _ => 100) A1.lt).trans p1
  replace A1 := A1.alloc (.cells #[.int .i64 0, .int .i64 0, .int .i64 0] 56)
  clear p1
  replace o2 := (grw_old (f := fun _ => 100) A2.lt).trans p2
  replace A2 := A2.alloc (.cells #[.int .i64 0, .int .i64 0, .int .i64 0] 56)
  clear p2
  replace o3 := (grw_old (f := fun _ => 100) A3.lt).trans p3
  replace A3 := A3.alloc (.cells #[.int .i64 0, .int .i64 0, .int .i64 0] 56)
  clear p3
  have o4 : grw v4.heap.size m'.own (fun _ => 100) v4.heap.size = 100 := grw_new (Nat.le_refl _)
  replace hgb : ({ m' with own := grw v4.heap.size m'.own (fun _ => 100) } : Gm).gb = gb := hgb
  obtain ⟨mm, hmm⟩ : ∃ mm, mm = ({ m' with own := grw v4.heap.size m'.own (fun _ => 100) } : Gm) := ⟨_, rfl⟩
  replace o1 : mm.own v1.heap.size = 100 := by rw [hmm]; exact o1
  replace o2 : mm.own v2.heap.size = 100 := by rw [hmm]; exact o2
  replace o3 : mm.own v3.heap.size = 100 := by rw [hmm]; exact o3
  replace o4 : mm.own v4.heap.size = 100 := by rw [hmm]; exact o4
  rw [← hmm] at C hgb
  clear hmm X k m m'
  obtain ⟨m, rfl⟩ : ∃ m, m = mm := ⟨_, rfl⟩
  replace C : Gld w _ m s4 := C
  unfold ansV
  go_wp2_with fail
  refine (gstep_at w m s4 gx5 gb _ C hgb).mono ?_
  rintro e v5 ⟨rfl, m', X⟩
  rw [h5]
  rw [h5] at X
  clear h5
  have p1 := X.ow _ A1.lt o1
  replace A1 := X.blk A1 o1
  have p2 := X.ow _ A2.lt o2
  replace A2 := X.blk A2 o2
  have p3 := X.ow _ A3.lt o3
  replace A3 := X.blk A3 o3
  have p4 := X.ow _ A4.lt o4
  replace A4 := X.blk A4 o4
  replace hgb := X.gb.trans hgb
  have k := (Chg.refl [] v5).alloc (.cells #[.int .i64 0, .int .i64 4, .int .i64 1] 56)
  replace C := X.g.fresh k
  have A5 := Blk.new v5 #[.int .i64 0, .int .i64 4, .int .i64 1] 56
  replace o1 := (grw_old (f := fun _ => 100) A1.lt).trans p1
  replace A1 := A1.alloc (.cells #[.int .i64 0, .int .i64 4, .int .i64 1] 56)
  clear p1
  replace o2 := (grw_old (f := fun _ => 100) A2.lt).trans p2
  replace A2 := A2.alloc (.cells #[.int .i64 0, .int .i64 4, .int .i64 1] 56)
  clear p2
  replace o3 := (grw_old (f := fun _ => 100) A3.lt).trans p3
  replace A3 := A3.alloc (.cells #[.int .i64 0, .int .i64 4, .int .i64 1] 56)
  clear p3
  replace o4 := (grw_old (f := fun _ => 100) A4.lt).trans p4
  replace A4 := A4.alloc (.cells #[.int .i64 0, .int .i64 4, .int .i64 1] 56)
  clear p4
  have o5 : grw v5.heap.size m'.own (fun _ => 100) v5.heap.size = 100 := grw_new (Nat.le_refl _)
  replace hgb : ({ m' with own := grw v5.heap.size m'.own (fun _ => 100) } : Gm).gb = gb := hgb
  obtain ⟨mm, hmm⟩ : ∃ mm, mm = ({ m' with own := grw v5.heap.size m'.own (fun _ => 100) } : Gm) := ⟨_, rfl⟩
  replace o1 : mm.own v1.heap.size = 100 := by rw [hmm]; exact o1
  replace o2 : mm.own v2.heap.size = 100 := by rw [hmm]; exact o2
  replace o3 : mm.own v3.heap.size = 100 := by rw [hmm]; exact o3
  replace o4 : mm.own v4.heap.size = 100 := by rw [hmm]; exact o4
  replace o5 : mm.own v5.heap.size = 100 := by rw [hmm]; exact o5
  rw [← hmm] at C hgb
  clear hmm X k m m'
  obtain ⟨m, rfl⟩ : ∃ m, m = mm := ⟨_, rfl⟩
  replace C : Gld w _ m s5 := C
  unfold ansV
  go_wp2_with fail
  refine (gstep_at w m s5 gx6 gb _ C hgb).mono ?_
  rintro e v6 ⟨rfl, m', X⟩
  rw [h6]
  rw [h6] at X
  clear h6
  have p1 := X.ow _ A1.lt o1
  replace A1 := X.blk A1 o1
  have p2 := X.ow _ A2.lt o2
  replace A2 := X.blk A2 o2
  have p3 := X.ow _ A3.lt o3
  replace A3 := X.blk A3 o3
  have p4 := X.ow _ A4.lt o4
  replace A4 := X.blk A4 o4
  have p5 := X.ow _ A5.lt o5
  replace A5 := X.blk A5 o5
  replace hgb := X.gb.trans hgb
  have k := (Chg.refl [] v6).alloc (.cells #[.int .i64 9, .int .i64 0, .int .i64 0] 56)
  replace C := X.g.fresh k
  have A6 := Blk.new v6 #[.int .i64 9, .int .i64 0, .int .i64 0] 56
  replace o1 := (grw_old (f := fun _ => 100) A1.lt).trans p1
  replace A1 := A1.alloc (.cells #[.int .i64 9, .int .i64 0, .int .i64 0] 56)
  clear p1
  replace o2 := (grw_old (f := fun _ => 100) A2.lt).trans p2
  replace A2 := A2.alloc (.cells #[.int .i64 9, .int .i64 0, .int .i64 0] 56)
  clear p2
  replace o3 := (grw_old (f := fun _ => 100) A3.lt).trans p3
  replace A3 := A3.alloc (.cells #[.int .i64 9, .int .i64 0, .int .i64 0] 56)
  clear p3
  replace o4 := (grw_old (f := fun _ => 100) A4.lt).trans p4
  replace A4 := A4.alloc (.cells #[.int .i64 9, .int .i64 0, .int .i64 0] 56)
  clear p4
  replace o5 := (grw_old (f := fun _ => 100) A5.lt).trans p5
  replace A5 := A5.alloc (.cells #[.int .i64 9, .int .i64 0, .int .i64 0] 56)
  clear p5
  have o6 : grw v6.heap.size m'.own (fun _ => 100) v6.heap.size = 100 := grw_new (Nat.le_refl _)
  replace hgb : ({ m' with own := grw v6.heap.size m'.own (fun _ => 100) } : Gm).gb = gb := hgb
  obtain ⟨mm, hmm⟩ : ∃ mm, mm = ({ m' with own := grw v6.heap.size m'.own (fun _ => 100) } : Gm) := ⟨_, rfl⟩
  replace o1 : mm.own v1.heap.size = 100 := by rw [hmm]; exact o1
  replace o2 : mm.own v2.heap.size = 100 := by rw [hmm]; exact o2
  replace o3 : mm.own v3.heap.size = 100 := by rw [hmm]; exact o3
  replace o4 : mm.own v4.heap.size = 100 := by rw [hmm]; exact o4
  replace o5 : mm.own v5.heap.size = 100 := by rw [hmm]; exact o5
  replace o6 : mm.own v6.heap.size = 100 := by rw [hmm]; exact o6
  rw [← hmm] at C hgb
  clear hmm X k m m'
  obtain ⟨m, rfl⟩ : ∃ m, m = mm := ⟨_, rfl⟩
  replace C : Gld w _ m s6 := C
  unfold ansV
  obtain ⟨a10, a11, a12, -, -, -⟩ := A1.three
  have la1 := A1.lt
  clear A1 o1
  obtain ⟨a20, a21, a22, -, -, -⟩ := A2.three
  have la2 := A2.lt
  clear A2 o2
  obtain ⟨a30, a31, a32, -, -, -⟩ := A3.three
  have la3 := A3.lt
  clear A3 o3
  obtain ⟨a40, a41, a42, -, -, -⟩ := A4.three
  have la4 := A4.lt
  clear A4 o4
  obtain ⟨a50, a51, a52, -, -, -⟩ := A5.three
  have la5 := A5.lt
  clear A5 o5
  obtain ⟨a60, a61, a62, -, -, -⟩ := A6.three
  have la6 := A6.lt
  clear A6 o6
  obtain ⟨i, hi, hi2, hit, hs⟩ := nodeG_some hnd
  have hv : nodeV m s6 2 = .pointer (some ⟨m.nb i, 0, none⟩) := by unfold nodeV; rw [hnd, hit]; rfl
  have hv0 : nodeV m s6 0 = .pointer none := by unfold nodeV; rw [g10]; rfl
  have N := C.nod i nd hi hs
  clear hi2 hit hs hnd
  obtain ⟨m0, -, -, -, lm, -⟩ := N.cells
  obtain ⟨cd, lgb⟩ := C.disk hgb
  go_wp2_with fail
  refine (gnode_at w m s6 2 gb _ C hgb).mono ?_
  rintro e w9 ⟨rfl, rfl⟩
  rw [hv]
  go_wp2_with fail
  refine (job_all (m.tb i) 4 nd.T _ N.2).mono ?_
  rintro e w8 ⟨rfl, g8⟩
  rw [hjb]
  replace C := C.keep g8 (by simp)
  obtain ⟨cd', lgb'⟩ := C.disk hgb
  clear g8 N m0 lm cd lgb a10 a11 a12 a20 a21 a22 a30 a31 a32 a40 a41 a42 a50 a51 a52 a60 a61 a62
  go_wp2_with fail
  refine (gnow_at w m s6 gb _ C hgb).mono ?_
  rintro e w8 ⟨rfl, rfl⟩
  rw [g7]
  go_wp2_with fail
  refine (depoch_any m.db s6.d.ep m.v s6.d.l _ _ C.dsk).mono ?_
  rintro e w8 ⟨rfl, rfl⟩
  rw [g8]
  go_wp2_with fail
  refine (gnode_at w m s6 0 gb _ C hgb).mono ?_
  rintro e w8 ⟨rfl, rfl⟩
  rw [hv0]
  go_wp2_with fail
  refine (dbytes_any m.db s6.d.ep m.v s6.d.l _ _ C.dsk).mono ?_
  rintro e w10 ⟨v10, rfl, own10, g10⟩
  have hown := own_form own10
  rw [g9] at hown
  have G10 := C.ch.trans g10 (by simp)
  clear g10 own10
  rcases hown with ⟨rfl, h0⟩ | ⟨gb', cb, rfl, -⟩
  · exact absurd (congrArg List.length h0) (by rw [g9]; decide)
  · go_wp2
    go_ret
    exact ⟨rfl, G10⟩

theorem gbegun_any (w : World) : Calls Try.prog 40 #[] w fun e w' => e = .returned (.bool true) ∧ Chg [] w w' := by
  obtain ⟨nd, hnd, hjb⟩ := gb9
  exact gbegun_of gs0 gs1 gs2 gs3 gs4 gs5 gs6 rfl (Prod.ext rfl gb1) (Prod.ext rfl gb2) (Prod.ext rfl gb3) (Prod.ext rfl gb4) (Prod.ext rfl gb5) (Prod.ext rfl gb6) gb7.1 gb7.2.1 gb7.2.2 gb8 nd hnd hjb w

end Go.Proofs.Ytgcikokfgcpkfab

namespace Go.Proofs.Ytgcikokfgcpkfab
open Go.RowKit

theorem Gnx.row {W0 w w' : World} {m m' : Gm} {s' : Gd} (h : Gnx W0 w m w' m' s') {base : Nat} {e : TypeId} {size : Nat} {v : Value} {n : Nat} {xs : List Value} (ho : w.ownsRow base e size v n xs) (hf : ∀ g, v.ownBlock = some g → m.own g = 100) :
    w'.ownsRow base e size v n xs ∧ ∀ g, v.ownBlock = some g → m'.own g = 100 := by
  obtain ⟨bs, k, hbs⟩ := h.ch
  exact ⟨own_keep ho k (fun x hx e => (hbs x hx).1 (hf x e)), fun g hg => h.ow g (ho.lt g hg).2 (hf g hg)⟩
/-- New memory of somebody else. -/
theorem Gld.alien {W0 w w' : World} {m : Gm} {s : Gd} (h : Gld W0 w m s) (k : Chg [] w w') : ∃ m', Gld W0 w' m' s ∧ m'.gb = m.gb ∧ m'.db = m.db ∧ m'.v = m.v ∧ m'.nb = m.nb ∧ m'.tb = m.tb ∧ (∀ x, w.heap.size ≤ x → m'.own x = 100) ∧ ∀ x, x < w.heap.size → m.own x = 100 → m'.own x = 100 :=
  ⟨_, h.fresh k, rfl, rfl, rfl, rfl, rfl, fun _ hx => grw_at m _ hx, fun _ hx e => grw_as m _ hx e⟩
theorem recsL_all (l : List Int) : allR l.length (getB l) = recsL l := rfl
theorem Tells.more {s s' : Gd} {x : Sp} {rs rs' : List Rc} {a : An} (h : Tells s x rs s' a rs') : ∃ q, rs' = rs ++ q ∧ q.length ≤ 1 := by
  rcases h with ⟨_, _, e, _⟩ | ⟨_, _, e, _⟩ | ⟨e, _⟩
  · exact ⟨_, e, by simp⟩
  · exact ⟨_, e, by simp⟩
  · exact ⟨[], by simp [e], by simp⟩
theorem atR_app {a b : List Rc} {i : Nat} (h : i < a.length) : atR (a ++ b) i = atR a i := by
  unfold atR
  simp [List.getD, List.getElem?_append_left h]
theorem Recs.congr' {w : World} {a : Option Addr} {n : Nat} {fs gs : Nat → Rc} (h : Recs w a n fs) (e : ∀ i, i < n → fs i = gs i) : Recs w a n gs := by
  rcases h with h | ⟨bl, off, h1, h2, h3⟩
  · exact .inl h
  · exact .inr ⟨bl, off, h1, h2, fun i hi => e i hi ▸ h3 i hi⟩

end Go.Proofs.Ytgcikokfgcpkfab

