/-
 The story's Of: the events of all records. Nothing here is claimed by itself.
-/
import Derived.Deep.RegionHeld3
import Derived.Conc.WalkWords
import Derived.Test.YtllnjiljjodfdacGreatDoorQgSP
import Derived.Test.YtllnjiljjodfdacGreatDoorQgR3
namespace Go.Proofs.YtllnjiljjodfdacGreatDoor
open Go.RowKit

theorem evInfo : (Tryz.prog.info? 134).map (fun i => (i.zero, i.size, i.bytes)) = some (some (.agg #[.int .i64 0, .int .i64 0, .int .i64 0, .int .i64 0, .int .i64 0, .int .i64 0, .int .i64 0, .int .i64 0, .int .i64 0, .int .i64 0, .int .i64 0, .int .i64 0, .int .i64 0, .int .i64 0]), 14, 112) := by kernel_rfl
theorem ansInfoS : (Tryz.prog.info? 95).map (·.size) = some 3 := by kernel_rfl
theorem ordInfoS : (Tryz.prog.info? 83).map (·.size) = some 6 := by kernel_rfl
theorem own_blk_ne {w : World} {base : Nat} {e : TypeId} {s : Nat} {v : Value} {n : Nat} {xs : List Value} (h : w.ownsRow base e s v n xs) {b : Nat} {c : Array Value} {t : TypeId} (hB : w.heap[b]? = some (.cells c t)) (he : e ≠ t) : v.ownBlock ≠ some b := by
 obtain ⟨_, ⟨rfl, _⟩ | ⟨g, c', cur, rfl, _, hg, _⟩⟩ := h
 ·simp [Value.ownBlock]
 ·simp only [Value.ownBlock, ne_eq, Option.some.injEq]
  intro e1
  subst e1
  rw [hg] at hB
  simp at hB
  exact he hB.2
theorem grown_heap {w w' : World} {row : Option Nat} (g : w.grownBy w' row) {b : Nat} {o : Obj} (h : w.heap[b]? = some o) (hn : row ≠ some b) : w'.heap[b]? = some o := by
 rw [g.block b (Array.getElem?_eq_some_iff.1 h).1 (fun e => hn e.symm)]
 exact h
theorem rec_yield {S : World → Prop} {b : Nat} {r : Rc} {t : TypeId} (hS : ∀ W, S W → Blk W b r.cells t) {ops : Array Oper} {op : Oper} {a : Act} {x : Operand} (hw : Region.wanted op (yielded ops a.tmps) = true) (ho : op.op = .load 110 x) (hx : a.eval x = .pointer (some ⟨b, 0, none⟩)) :
  YieldsIf Tryz.prog ops S op (.agg r.cells) a :=
 yieldsIf_load_mid (P := Tryz.prog) hw 110 x ho b 0 hx r.list _ (fun w' hw' j v hv => by rw [Nat.zero_add, (hS _ hw').cell, ← hv]; show (r.list.toArray)[j]? = _; rw [List.getElem?_toArray]) Tryz.underlying110 rfl (by rw [recInfo]; rfl)
theorem ans_yield {S : World → Prop} {b : Nat} {u : An} {t : TypeId} (hS : ∀ W, S W → Blk W b #[.int .i64 u.code, .int .i64 u.jb, .int .i64 u.tr] t) {ops : Array Oper} {op : Oper} {a : Act} {x : Operand} (hw : Region.wanted op (yielded ops a.tmps) = true) (ho : op.op = .load 95 x) (hx : a.eval x = .pointer (some ⟨b, 0, none⟩)) :
  YieldsIf Tryz.prog ops S op (ansV u) a :=
 yieldsIf_load_mid (P := Tryz.prog) hw 95 x ho b 0 hx [.int .i64 u.code, .int .i64 u.jb, .int .i64 u.tr] _ (fun w' hw' j v hv => by rw [Nat.zero_add, (hS _ hw').cell]; simpa using hv) Tryz.underlying95 rfl (by rw [ansInfoS]; rfl)
theorem ord1_yield {S : World → Prop} {b : Nat} {r : Rc} {t : TypeId} (hS : ∀ W, S W → Blk W b r.cells t) {ops : Array Oper} {op : Oper} {a : Act} {x : Operand} (hw : Region.wanted op (yielded ops a.tmps) = true) (ho : op.op = .load 83 x) (hx : a.eval x = .pointer (some ⟨b, 1, none⟩)) :
  YieldsIf Tryz.prog ops S op (odV r.o) a :=
 yieldsIf_load_mid (P := Tryz.prog) hw 83 x ho b 1 hx [.int .i64 r.o.k, .int .i64 r.o.now, .int .i64 r.o.jb, .int .i64 r.o.tr, .int .i64 r.o.wk, .int .i64 r.o.tm] _ (fun w' hw' j v hv => by
  have hj : j < 6 := (List.getElem?_eq_some_iff.1 hv).1
  rw [(hS _ hw').cell, ← hv]
  obtain rfl | rfl | rfl | rfl | rfl | rfl : j = 0 ∨ j = 1 ∨ j = 2 ∨ j = 3 ∨ j = 4 ∨ j = 5 := by omega
  all_goals rfl) Tryz.underlying83 rfl (by rw [ordInfoS]; rfl)
set_option maxRecDepth 100000 in
set_option maxHeartbeats 8000000 in
theorem of_any (a : Option Addr) (n cap : Nat) (f : Nat → Int) (w : World) (hn4 : n ≤ 4000) (hcap : n ≤ cap) (h : Byt w a n f) :
  Calls Tryz.prog 59 #[.slice a n cap] w fun e w' => ∃ v, e = .returned v ∧ w'.ownsRow w.heap.size 134 14 v (allR n f).length (cellsE (evs (allR n f))) ∧ Chg [] w w' := by
 obtain ⟨i0, hi, hz0, hz1, hz2⟩ := kInfoParts evInfo
 have HB := hide h
 clear h
 have hfew := allR_few n f
 obtain ⟨rs, hrs⟩ : ∃ rs, rs = allR n f := ⟨_, rfl⟩
 rw [← hrs] at hfew ⊢
 have HRS := hide hrs
 clear hrs
 obtain ⟨m, hm⟩ : ∃ m, m = rs.length := ⟨_, rfl⟩
 rw [← hm] at hfew ⊢
 have HM := hide hm
 clear hm
 go_enter Tryz.func59, Tryz.ntmps59
 go_wp2_with fail
 refine (all_any a n cap f _ hn4 hcap (unhide HB)).mono ?_
 rintro e w1 ⟨v, rfl, own1, g1⟩
 rw [← unhide HRS, ← unhide HM] at own1
 obtain ⟨ar, c1, rfl, hc1, -, R1⟩ := own_recs own1 (unhide HM)
 have HR1 := hide R1
 clear own1 R1
 have tok : True := trivial
 go_wp2_with (first
  | (refine wpList_make_own _ rfl _ _ 132 rfl w1.heap.size 134 i0 (.agg #[.int .i64 0, .int .i64 0, .int .i64 0, .int .i64 0, .int .i64 0, .int .i64 0, .int .i64 0, .int .i64 0, .int .i64 0, .int .i64 0, .int .i64 0, .int .i64 0, .int .i64 0, .int .i64 0]) 14 Tryz.underlying132 hi hz0 hz1 .i64 .i64 m m rfl rfl rfl (by rw [hz2]; omega) (by unfold maxLen; omega) (Nat.le_refl _) ?_; intro w2 own2 gr2; have _t := tok; clear tok; have G2 := (Chg.refl [] w1).grown gr2 (by simp); clear gr2)
  | (go_at_call 77; refine (new_any _).mono ?_; rintro e w3 ⟨rfl, hB3, g3⟩; have own3 := own_chg own2 g3; have G3 := G2.trans g3 (by simp); have ztb := G2.size; clear own2 g3 G2))
 go_loopw [4, 17] (fun v i wr => ∃ k : Nat, k ≤ m ∧ i = .int .i64 k ∧ wr.ownsRow w1.heap.size 134 14 v k (cellsE (evs (rs.take k))) ∧ Has 151 wr w2.heap.size (behindT (rs.take k)) ∧ Chg [] w1 wr) (fun _ i _ => m - (intOf i).toNat)
 case atStart => exact ⟨0, by omega, rfl, own3, hB3, G3⟩
 case round =>
  clear own3 hB3 G3
  obtain ⟨k, hk, rfl, hown, hB, hG⟩ := hrel
  by_cases hlt : k < m
  ·have hki : (k : Int) < (m : Int) := by omega
   have hk0 : (0 : Int) ≤ (k : Int) := by omega
   rcases unhide HR1 with h0 | ⟨bl, off, rfl, hbl, hO⟩
   ·omega
   obtain ⟨p0, p1, p2, p3, p4, p5, p6⟩ := (hO k hlt).chg hG hbl
   have hbl' := Nat.lt_of_lt_of_le hbl hG.size
   have HT := hide (take_snocR rs (k := k) (by rw [← unhide HM]; exact hlt))
   have HE := hide (evs_snoc_take rs (k := k) (by rw [← unhide HM]; exact hlt))
   clear hO
   generalize atR rs k = r at *
   generalize hT : behindT (rs.take k) = T at *
   have HI : Inv T := hT ▸ behindT_inv _
   have HTE := hide hT
   have lT := hB.lt
   clear hT
   go_wp2_with (go_at_call 78; refine (do_any w2.heap.size r.o T _ (hB.alloc _) HI.fit).mono ?_; rintro e w4 ⟨rfl, hB4, g4⟩; have RB4 := (Blk.new wr r.cells 110).chg g4 (by simp; omega); have G4 := (hG.alloc _).trans g4 (by simp; omega); have own4 := own_keep (hown.alloc _) g4 (by simp; exact own_blk_ne hown hB (by decide)); clear g4)
   obtain ⟨u, hu⟩ : ∃ u, u = (doT T r.o).2 := ⟨_, rfl⟩
   rw [← hu]
   have HU := hide hu
   clear hu hown hB p0 p1 p2 p3 p4 p5 p6
   have A5 := Blk.new w4 #[.int .i64 u.code, .int .i64 u.jb, .int .i64 u.tr] 95
   have RB5 := RB4.alloc (.cells #[.int .i64 u.code, .int .i64 u.jb, .int .i64 u.tr] 95)
   have B5 := hB4.alloc (.cells #[.int .i64 u.code, .int .i64 u.jb, .int .i64 u.tr] 95)
   have own5 := own4.alloc (.cells #[.int .i64 u.code, .int .i64 u.jb, .int .i64 u.tr] 95)
   have G5 := (G4.alloc (.cells #[.int .i64 u.code, .int .i64 u.jb, .int .i64 u.tr] 95)).drew
   have zr : wr.heap.size < w4.heap.size := RB4.lt
   clear RB4 hB4 own4 G4 hG
   generalize hW5 : w4.alloc (.cells #[.int .i64 u.code, .int .i64 u.jb, .int .i64 u.tr] 95) = w5 at *
   clear hW5
   replace A5 : Blk w5.drew w4.heap.size _ _ := A5
   replace RB5 : Blk w5.drew wr.heap.size r.cells _ := RB5
   replace B5 : Has _ w5.drew w2.heap.size _ := B5
   replace own5 : w5.drew.ownsRow _ _ _ _ _ _ := own5
   refine wp_region_noPanic ?_
   refine wp_region_held_drew (S := (fun w' => Blk w' wr.heap.size r.cells 110 ∧ Blk w' w4.heap.size #[.int .i64 u.code, .int .i64 u.jb, .int .i64 u.tr] 95)) (by kernel_rfl) ⟨RB5, A5⟩ (fun hH => ?_)
   refine tk 0 rfl hH ?_
   walk_nrm
   refine wpAnyH_take (i := 1) (v := _) rfl (by kernel_rfl) (by kernel_rfl) (by kernel_rfl) (fun _ _ _ h => h) (rec_yield (r := r) (fun _ h => h.1) (by rfl) rfl rfl) hH ?_
   walk_nrm
   refine wpAnyH_take (i := 2) (v := _) rfl (by kernel_rfl) (by kernel_rfl) (by kernel_rfl) (fun _ _ _ h => h) (ans_yield (u := u) (fun _ h => h.2) (by rfl) rfl rfl) hH ?_
   walk_nrm
   refine tk 3 rfl hH ?_
   walk_nrm
   refine tk 4 rfl hH ?_
   walk_nrm
   refine wpAnyH_take (i := 5) (v := _) rfl (by kernel_rfl) (by kernel_rfl) (by kernel_rfl) (fun _ _ _ h => h) (ord1_yield (r := r) (fun _ h => h.1) (by rfl) rfl rfl) hH ?_
   walk_nrm
   refine wpAnyH_take (i := 6) (v := _) rfl (by kernel_rfl) (by kernel_rfl) (by kernel_rfl) (fun _ _ _ h => h) (ans_yield (u := u) (fun _ h => h.2) (by rfl) rfl rfl) hH ?_
   walk_nrm
   refine rd 7 rfl (fun K hK => ?_)
   go_simp
   refine (jobb_any w2.heap.size r.o u _ _ B5).mono ?_
   rintro e w6 ⟨rfl, g6⟩
   have B6 := B5.chg g6 (by simp)
   have own6 := own_chg own5 g6
   have G6 := G5.trans g6 (by simp)
   refine hK.out _ _ ⟨hH.1.chg g6 (by simp), hH.2.chg g6 (by simp)⟩ (fun hH2 => ?_)
   clear hK K hH
   have hH := hH2
   clear hH2
   walk_nrm
   clear g6 B5 own5 G5
   obtain ⟨jj, hjj⟩ : ∃ jj, jj = evJ (doT T r.o).1 r.o u := ⟨_, rfl⟩
   rw [← hjj]
   have HJJ := hide hjj
   clear hjj
   unfold jbV ansV Rc.cells
   refine tk 8 rfl hH ?_
   walk_nrm
   refine rd 9 rfl (fun K hK => ?_)
   go_simp
   have E7 := Blk.new w6 #[.int .i64 r.ep, .int .i64 r.o.k, .int .i64 r.o.now, .int .i64 r.o.jb, .int .i64 r.o.tr, .int .i64 r.o.wk, .int .i64 r.o.tm, .int .i64 u.code, .int .i64 u.jb, .int .i64 u.tr, .int .i64 jj.st, .int .i64 jj.wk, .int .i64 jj.tr, .int .i64 jj.un] 134
   have B7 := B6.alloc (.cells #[.int .i64 r.ep, .int .i64 r.o.k, .int .i64 r.o.now, .int .i64 r.o.jb, .int .i64 r.o.tr, .int .i64 r.o.wk, .int .i64 r.o.tm, .int .i64 u.code, .int .i64 u.jb, .int .i64 u.tr, .int .i64 jj.st, .int .i64 jj.wk, .int .i64 jj.tr, .int .i64 jj.un] 134)
   have own7 := own6.alloc (.cells #[.int .i64 r.ep, .int .i64 r.o.k, .int .i64 r.o.now, .int .i64 r.o.jb, .int .i64 r.o.tr, .int .i64 r.o.wk, .int .i64 r.o.tm, .int .i64 u.code, .int .i64 u.jb, .int .i64 u.tr, .int .i64 jj.st, .int .i64 jj.wk, .int .i64 jj.tr, .int .i64 jj.un] 134)
   have G7 := G6.alloc (.cells #[.int .i64 r.ep, .int .i64 r.o.k, .int .i64 r.o.now, .int .i64 r.o.jb, .int .i64 r.o.tr, .int .i64 r.o.wk, .int .i64 r.o.tm, .int .i64 u.code, .int .i64 u.jb, .int .i64 u.tr, .int .i64 jj.st, .int .i64 jj.wk, .int .i64 jj.tr, .int .i64 jj.un] 134)
   refine hK.out _ _ ⟨hH.1.alloc _, hH.2.alloc _⟩ (fun hH2 => ?_)
   clear hK K hH
   have hH := hH2
   clear hH2
   walk_nrm
   clear B6 own6 G6
   refine rd 10 rfl (fun K hK => ?_)
   refine wp_append_own _ (.tmp 25) (.tmp 34) 132 rfl w1.heap.size 134 i0 _ 14 112 Tryz.underlying132 hi hz0 hz1 hz2 rfl (by decide) u4 k (cellsE (evs (rs.take k))) rfl own7 ⟨w6.heap.size, 0, none⟩ 1 1 (Ev.list ⟨r, u, jj⟩) rfl rfl E7.news (by simp [Ev.list, Value.oneCell']) (by unfold maxLen; omega) (by omega) G7.size ?_
   intro v9 w9 own9 gr9 _
   have n1 := own_blk_ne own7 hH.1 (by decide)
   have n2 := own_blk_ne own7 hH.2 (by decide)
   have n3 := own_blk_ne own7 B7 (by decide)
   have B9 : Has _ w9 w2.heap.size _ := grown_heap gr9 B7 n3
   have G9 := G7.grown gr9 (fun j hj => .inr (own7.lt j hj).1)
   refine hK.out _ _ ⟨grown_heap gr9 hH.1 n1, grown_heap gr9 hH.2 n2⟩ (fun hH2 => ?_)
   clear hK K hH
   have hH := hH2
   clear hH2
   walk_nrm
   clear gr9 B7 own7 G7 E7 n1 n2 n3
   rw [show (⟨r, u, jj⟩ : Ev) = evOf T r by rw [unhide HJJ, unhide HU]; rfl] at own9
   refine tk 11 rfl hH ?_
   walk_nrm
   refine wpAnyH_done (by kernel_rfl) ?_ _
   refine NoPanic.normal ?_
   clear hH
   go_wp2
   go_roundw
   case rel => exact ⟨k + 1, by omega, by go_num, by rw [unhide HE, cellsE_snoc]; exact own9, by rw [unhide HT, behindT_snoc, unhide HTE]; exact B9, G9⟩
   case measure => go_light; simp [intOf]; omega
  ·have hki : ¬ (k : Int) < (m : Int) := by omega
   have hkn : rs.take k = rs := by rw [show k = rs.length by rw [← unhide HM]; omega, List.take_length]
   have hkm : k = m := by omega
   have HK := hide hkn
   have HKM := hide hkm
   clear hkn hkm
   go_wp2
   go_ret
   rw [unhide HK, unhide HKM] at hown
   exact ⟨_, rfl, own_base hown g1.size, g1.trans hG (by simp)⟩
end Go.Proofs.YtllnjiljjodfdacGreatDoor
