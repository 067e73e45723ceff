/-
  What codec.Encode does. Nothing here is claimed by itself.
-/
import Derived.Test.YtdppeddiffjamaaC2
namespace Go.Proofs.Ytdppeddiffjamaa
open Go.RowKit

set_option maxRecDepth 100000 in
theorem enc_no (r : Rc) (w : World) (h : ckR r ≠ 0) :
    Calls Try.prog 25 #[.agg r.cells] w fun e w' => e = .returned (.tuple #[.slice none 0 0, .int .i64 (ckR r)]) ∧ Chg [] w w' := by
  have hb : (ckR r == 0) = false := by simpa using h
  go_enter Try.func25, Try.ntmps25
  unfold Rc.cells
  go_wp2_with fail
  refine (cck_any r _).mono ?_
  rintro e w1 ⟨rfl, g1⟩
  have G1 : Chg [] w w1 := ((Chg.refl _ _).alloc _).trans g1 (by simp)
  clear g1
  go_wp2
  go_ret2
  exact ⟨by simp, G1⟩

theorem u8Info : (Try.prog.info? 5).map (fun i => (i.zero, i.size, i.bytes)) = some (some (.int .u8 0), 1, 1) := by kernel_rfl

theorem enc_f1 {w1 w2 : World} {b : Nat} {ep v0 v1 v2 v3 v4 v5 : Value} {t : TypeId} (hg : (w1.alloc (.cells #[v0, v1, v2, v3, v4, v5] t)).grownBy w2 none) (h0 : w1.cell? ⟨b, 0, none⟩ = some ep) (hb : b < w1.heap.size) :
    w2.cell? ⟨b, 0, none⟩ = some ep ∧ w2.cell? ⟨w1.heap.size, 0, none⟩ = some v0 ∧ w2.cell? ⟨w1.heap.size, 1, none⟩ = some v1 ∧ w2.cell? ⟨w1.heap.size, 2, none⟩ = some v2 ∧ w2.cell? ⟨w1.heap.size, 3, none⟩ = some v3 ∧ w2.cell? ⟨w1.heap.size, 4, none⟩ = some v4 ∧ w2.cell? ⟨w1.heap.size, 5, none⟩ = some v5 := by
  have A := Blk.new w1 #[v0, v1, v2, v3, v4, v5] t
  obtain ⟨c0, c1, c2, c3, c4, c5⟩ := A.six
  refine ⟨hg.cell ?_ (by simp), hg.cell c0 (by simp), hg.cell c1 (by simp), hg.cell c2 (by simp), hg.cell c3 (by simp), hg.cell c4 (by simp), hg.cell c5 (by simp)⟩
  rw [World.cell?_of_block (w := w1) (Below.heap_alloc w1 _ b hb)]
  exact h0

theorem Blk.news {w : World} {b : Nat} {c : Array Value} {t : TypeId} (h : Blk w b c t) : ∀ (j : Nat) (u : Value), c.toList[j]? = some u → w.cell? ((⟨b, 0, none⟩ : Addr).add j) = some u := by
  intro j u hj
  have e : ((⟨b, 0, none⟩ : Addr).add j) = ⟨b, j, none⟩ := by simp [Addr.add]; omega
  rw [e, h.cell]
  simpa using hj
theorem enc_f2 {w2 w3 : World} {o : Obj} {g : Nat} (hg : (w2.alloc o).grownBy w3 (some g)) {b i : Nat} {v : Value} (h : w2.cell? ⟨b, i, none⟩ = some v) (hb : b ≠ g) : w3.cell? ⟨b, i, none⟩ = some v := by
  have hl : b < w2.heap.size := World.block_lt_of_cell? w2 ⟨b, i, none⟩ h
  refine hg.cell ?_ (by simpa using hb)
  rw [World.cell?_of_block (w := w2) (Below.heap_alloc w2 _ b hl)]
  exact h
theorem own_blk {w : World} {base : Nat} {e : TypeId} {g n : Nat} {xs : List Value} (h : w.ownsRow base e 1 (.slice (some ⟨g, 0, none⟩) n n) n xs) : Blk w g xs.toArray e ∧ base ≤ g := by
  obtain ⟨hl, h | ⟨g', cap, cur, e1, hb, hh, _, _, hs, ht⟩⟩ := h
  · simp at h
  · simp at e1
    obtain ⟨rfl, rfl⟩ := e1
    refine ⟨?_, hb⟩
    have : cur = xs.toArray := by
      rw [← ht, List.take_of_length_le (by simp [hs])]
    rw [← this]
    exact hh
theorem own_byt {w : World} {base : Nat} {e : TypeId} {g n cap : Nat} {xs : List Value} (h : w.ownsRow base e 1 (.slice (some ⟨g, 0, none⟩) n cap) n xs) {f : Nat → Int} (hf : ∀ i, i < n → 0 ≤ f i ∧ f i < 256) (hx : ∀ i, i < n → xs[i]? = some (.int .u8 (f i))) :
    Byt w (some ⟨g, 0, none⟩) n f := by
  have hlt := (h.lt g rfl).2
  refine ⟨hf, .inr ⟨g, 0, rfl, hlt, fun i hi => ?_⟩⟩
  have := h.cells (g := g) rfl i _ (hx i hi)
  have e : ((⟨g, 0, none⟩ : Addr).add i) = ⟨g, 0 + i, none⟩ := by simp [Addr.add]; omega
  rw [e] at this
  exact this
theorem Chg.grown {bs : List Nat} {a w w' : World} {row : Option Nat} (h : Chg bs a w) (hg : w.grownBy w' row) (hr : ∀ k, row = some k → k ∈ bs ∨ a.heap.size ≤ k) : Chg bs a w' :=
  ⟨hg.os.trans h.os, hg.tape.trans h.tape, hg.output.trans h.output, Nat.le_trans h.size hg.size, fun k hk hn => by
    rw [hg.block k (Nat.lt_of_lt_of_le hk h.size) (fun e => (hr k e.symm).elim hn (fun h1 => by omega))]
    exact h.block k hk hn⟩
theorem by8_list (r : Rc) (i : Nat) (hi : i < 8) : ([Value.int .u8 r.ep, .int .u8 r.o.k, .int .u8 (r.o.now / 256), .int .u8 (r.o.now % 256), .int .u8 r.o.jb, .int .u8 r.o.tr, .int .u8 r.o.wk, .int .u8 r.o.tm])[i]? = some (.int .u8 (by8 r i)) := by
  obtain rfl | rfl | rfl | rfl | rfl | rfl | rfl | rfl : i = 0 ∨ i = 1 ∨ i = 2 ∨ i = 3 ∨ i = 4 ∨ i = 5 ∨ i = 6 ∨ i = 7 := by omega
  all_goals rfl

set_option maxRecDepth 100000 in
set_option maxHeartbeats 4000000 in
theorem enc_yes (r : Rc) (w : World) (h : ckR r = 0) :
    Calls Try.prog 25 #[.agg r.cells] w fun e w' => ∃ g, e = .returned (.tuple #[.slice (some ⟨g, 0, none⟩) 9 9, .int .i64 0]) ∧ w.heap.size ≤ g ∧
      Blk w' g #[.int .u8 (by9 r 0), .int .u8 (by9 r 1), .int .u8 (by9 r 2), .int .u8 (by9 r 3), .int .u8 (by9 r 4), .int .u8 (by9 r 5), .int .u8 (by9 r 6), .int .u8 (by9 r 7), .int .u8 (by9 r 8)] 5 ∧ Chg [] w w' := by
  obtain ⟨⟨p0, p1⟩, ho⟩ := ckR_bd h
  obtain ⟨⟨k0, k1⟩, ⟨n0, n1⟩, ⟨j0, j1⟩, ⟨t0, t1⟩, ⟨v0, v1⟩, m0, m1⟩ := chk_bd ho
  obtain ⟨i0, hi, hz0, hz1, hz2⟩ := info_parts u8Info
  clear ho
  have HH := hide h
  clear h
  go_enter Try.func25, Try.ntmps25
  unfold Rc.cells
  go_wp2_with fail
  refine (cck_any r _).mono ?_
  rintro e w1 ⟨rfl, g1⟩
  have G1 : Chg [] w w1 := ((Chg.refl _ _).alloc _).trans g1 (by simp)
  rw [unhide HH]
  have A1 := (Blk.new w r.cells 48).chg g1 (by simp)
  obtain ⟨a0, a1, a2, a3, a4, a5, a6⟩ : w1.cell? ⟨w.heap.size, 0, none⟩ = some (.int .i64 r.ep) ∧ w1.cell? ⟨w.heap.size, 1, none⟩ = some (.int .i64 r.o.k) ∧ w1.cell? ⟨w.heap.size, 2, none⟩ = some (.int .i64 r.o.now) ∧ w1.cell? ⟨w.heap.size, 3, none⟩ = some (.int .i64 r.o.jb) ∧ w1.cell? ⟨w.heap.size, 4, none⟩ = some (.int .i64 r.o.tr) ∧ w1.cell? ⟨w.heap.size, 5, none⟩ = some (.int .i64 r.o.wk) ∧ w1.cell? ⟨w.heap.size, 6, none⟩ = some (.int .i64 r.o.tm) :=
    ⟨A1.cell 0, A1.cell 1, A1.cell 2, A1.cell 3, A1.cell 4, A1.cell 5, A1.cell 6⟩
  have s1 : w.heap.size < w1.heap.size := A1.lt
  clear A1 g1
  have tok : True := trivial
  go_wp2_with (first
    | (refine wpList_make_own _ rfl _ _ 49 rfl w.heap.size 5 i0 (.int .u8 0) 1 Try.underlying49 hi hz0 hz1 .i64 .i64 9 9 rfl rfl rfl (by rw [hz2]; decide) (by unfold maxLen; omega) (by simp; omega) ?_; intro w2 own2 gr2; have _t := tok; clear tok; obtain ⟨b0, e0, e1, e2, e3, e4, e5⟩ := enc_f1 gr2 a0 s1; clear a0 a1 a2 a3 a4 a5 a6; have GR2 := hide gr2; clear gr2; simp only [World.size_alloc] at own2; have z2 : w1.heap.size + 1 < w2.heap.size := (own2.lt _ rfl).2)
    | (at_builtin; refine wpList_append_fits _ rfl (.tmp 15) (.tmp 29) 49 rfl w.heap.size 5 i0 1 Try.underlying49 hi hz1 (w1.heap.size + 1) 0 9 [] rfl (own2.alloc _) ⟨w2.heap.size, 0, none⟩ 4 4 [.int .u8 r.ep, .int .u8 r.o.k, .int .u8 (r.o.now / 256), .int .u8 (r.o.now % 256)] rfl rfl (Blk.new _ _ _).news (by simp [Value.oneCell']) (by omega) ?_; intro w3 own3 gr3; clear own2; simp only [Nat.zero_add, List.nil_append] at own3; have d2 := enc_f2 gr3 e2 (by omega); have d3 := enc_f2 gr3 e3 (by omega); have d4 := enc_f2 gr3 e4 (by omega); have d5 := enc_f2 gr3 e5 (by omega); clear b0 e0 e1 e2 e3 e4 e5; have GR3 := hide gr3; clear gr3)
    | (at_builtin; refine wpList_append_fits _ rfl (.tmp 31) (.tmp 44) 49 rfl w.heap.size 5 i0 1 Try.underlying49 hi hz1 (w1.heap.size + 1) 4 9 _ rfl (own3.alloc _) ⟨w3.heap.size, 0, none⟩ 4 4 [.int .u8 r.o.jb, .int .u8 r.o.tr, .int .u8 r.o.wk, .int .u8 r.o.tm] rfl rfl (Blk.new _ _ _).news (by simp [Value.oneCell']) (by omega) ?_; intro w4 own4 gr4; clear own3 d2 d3 d4 d5; simp only [Nat.reduceAdd, List.cons_append, List.nil_append] at own4; have GR4 := hide gr4; clear gr4)
    | (go_at_call 42; refine (csum_any _ _ (by8 r) _ (own_byt own4 (by8_bd (unhide HH)) (by8_list r))).mono ?_; rintro e w5 ⟨rfl, rfl⟩)
    | (at_builtin; refine wpList_append_fits _ rfl (.tmp 46) (.tmp 49) 49 rfl w.heap.size 5 i0 1 Try.underlying49 hi hz1 (w1.heap.size + 1) 8 9 _ rfl (own4.alloc _) ⟨_, 0, none⟩ 1 1 [.int .u8 (sm (by8 r) 8 % 251)] rfl rfl (Blk.new _ _ _).news (by simp [Value.oneCell']) (by omega) ?_; intro w6 own6 gr6; simp only [Nat.reduceAdd, List.cons_append, List.nil_append] at own6; have GR6 := hide gr6; clear gr6))
  go_ret2
  have zz : w.heap.size ≤ w1.heap.size + 1 := by omega
  have hr : ∀ k, some (w1.heap.size + 1) = some k → k ∈ ([] : List Nat) ∨ w.heap.size ≤ k := fun k hk => .inr (by simp at hk; omega)
  refine ⟨w1.heap.size + 1, by simp, zz, (own_blk own6).1, ?_⟩
  exact (((((((G1.alloc _).grown (unhide GR2) (by simp)).alloc _).grown (unhide GR3) hr).alloc _).grown (unhide GR4) hr).alloc _).grown (unhide GR6) hr

end Go.Proofs.Ytdppeddiffjamaa
