/-
 The document's own HoldersOf and SameInts; the law's events. Nothing here is claimed by itself.
-/
import Derived.Test.YtllnjiljjodfdacGreatDoorQS4
import Derived.Test.YtllnjiljjodfdacGreatDoorQgD1
namespace Go.Proofs.YtllnjiljjodfdacGreatDoor
open Go.RowKit

theorem intInfoS : (Tryz.prog.info? 3).map (fun i => (i.zero, i.size, i.bytes)) = some (some (.int .i64 0), 1, 8) := by kernel_rfl
def Nums (w : World) (a : Option Addr) (n : Nat) (f : Nat → Int) : Prop :=
 n = 0 ∨ ∃ g, a = some ⟨g, 0, none⟩ ∧ g < w.heap.size ∧ ∀ i, i < n → w.cell? ⟨g, i, none⟩ = some (.int .i64 (f i))
theorem Nums.chg {w w' : World} {a : Option Addr} {n : Nat} {f : Nat → Int} (h : Nums w a n f) (k : Chg [] w w') : Nums w' a n f := by
 rcases h with h | ⟨g, e, hb, hc⟩
 ·exact .inl h
 ·exact .inr ⟨g, e, Nat.lt_of_lt_of_le hb k.size, fun i hi => by rw [k.cell' hb (by simp)]; exact hc i hi⟩
set_option maxRecDepth 100000 in
set_option maxHeartbeats 4000000 in
theorem holdof_any (a : Option Addr) (n c : Nat) (l : List Ev) (job : Int) (w : World) (hl : l.length = n) (hn : n ≤ 2000) (h : Evs w a n (atE l)) :
  Calls Tryz.prog 47 #[.slice a n c, .int .i64 job] w fun e w' => ∃ v, e = .returned v ∧ w'.ownsRow w.heap.size 3 1 v ((holdL l job).length * 2) (cellsP (holdL l job)) ∧ Chg [] w w' := by
 obtain ⟨i0, hi, hz0, hz1, hz2⟩ := kInfoParts intInfoS
 have HH := hide h
 have HL := hide hl
 clear h hl
 go_enter Tryz.func47, Tryz.ntmps47
 go_wp2_with fail
 go_loopw [5, 6] (fun v i wr => ∃ k : Nat, k ≤ n ∧ i = .int .i64 k ∧ wr.ownsRow w.heap.size 3 1 v ((holdL (l.take k) job).length * 2) (cellsP (holdL (l.take k) job)) ∧ Chg [] w wr) (fun _ i _ => n - (intOf i).toNat)
 case atStart => exact ⟨0, by omega, rfl, World.ownsRow_nil _ _ _ _, Chg.refl _ _⟩
 case round =>
  obtain ⟨k, hk, rfl, hown, hG⟩ := hrel
  by_cases hlt : k < n
  ·have hki : (k : Int) < (n : Int) := by omega
   have hk0 : (0 : Int) ≤ (k : Int) := by omega
   rcases unhide HH with h0 | ⟨bl, off, rfl, hbl, hO⟩
   ·omega
   have HEK := hide (hO k hlt)
   obtain ⟨-, p1, -, -, -, p5, -, p7, p8, p9, -, -, -, -⟩ := ((hO k hlt).chg hG hbl (by simp)).all
   have hbl' := Nat.lt_of_lt_of_le hbl hG.size
   have HT := hide (holdL_take l job (k := k) (by rw [unhide HL]; exact hlt))
   have hpl : (holdL (l.take k) job).length ≤ 2000 := Nat.le_trans (holdL_len _ _) (by simp; omega)
   clear hO
   generalize atE l k = e at *
   generalize hps : holdL (l.take k) job = ps at *
   have HPS := hide hps
   clear hps
   generalize hm : ps.length = m at *
   have HM := hide hm
   clear hm
   cases hg : gaveB e job
   ·have HN := hide (gave_no hg)
    unfold gaveB at hg
    cases h1 : (e.r.o.k == 2)
    ·clear hg
     go_wp2
     go_roundw
     case rel => exact ⟨k + 1, by omega, by go_num, by rw [unhide HT, unhide HN]; simp only [Option.toList_none, List.append_nil]; rw [unhide HM]; exact hown, hG⟩
     case measure => go_light; simp [intOf]; omega
    ·cases h2 : (e.a.code == 0)
     ·clear hg
      go_wp2
      go_roundw
      case rel => exact ⟨k + 1, by omega, by go_num, by rw [unhide HT, unhide HN]; simp only [Option.toList_none, List.append_nil]; rw [unhide HM]; exact hown, hG⟩
      case measure => go_light; simp [intOf]; omega
     ·have h3 : (e.a.jb == job) = false := by rw [h1, h2] at hg; simpa using hg
      clear hg
      go_wp2
      go_roundw
      case rel => exact ⟨k + 1, by omega, by go_num, by rw [unhide HT, unhide HN]; simp only [Option.toList_none, List.append_nil]; rw [unhide HM]; exact hown, hG⟩
      case measure => go_light; simp [intOf]; omega
   ·have HY := hide (gave_yes hg)
    unfold gaveB at hg
    simp only [Bool.and_eq_true] at hg
    obtain ⟨⟨h1, h2⟩, h3⟩ := hg
    go_wp2_with fail
    clear h1 h2 h3
    have Gd := hG.drew
    have ownd : wr.drew.ownsRow _ _ _ _ _ _ := hown
    refine wp_region_noPanic ?_
    refine wp_region_held_drew (S := (fun w' => w'.cell? ⟨bl, off + k * 14 + 5, none⟩ = some (.int .i64 e.r.o.wk) ∧ w'.cell? ⟨bl, off + k * 14 + 9, none⟩ = some (.int .i64 e.a.tr))) (by kernel_rfl) ⟨p5, p9⟩ (fun hH => ?_)
    refine tk 0 rfl hH ?_
    walk_nrm
    refine tk 1 rfl hH ?_
    walk_nrm
    refine tk 2 rfl hH ?_
    walk_nrm
    refine tk 3 rfl hH ?_
    walk_nrm
    refine tk 4 rfl hH ?_
    walk_nrm
    refine tk 5 rfl hH ?_
    walk_nrm
    refine tk 6 rfl hH ?_
    walk_nrm
    refine tk 7 rfl hH ?_
    walk_nrm
    refine tk 8 rfl hH ?_
    walk_nrm
    refine tk 9 rfl hH ?_
    walk_nrm
    refine tk 10 rfl hH ?_
    walk_nrm
    refine tk 11 rfl hH ?_
    walk_nrm
    refine tk 12 rfl hH ?_
    walk_nrm
    refine tk 13 rfl hH ?_
    walk_nrm
    refine rd 14 rfl (fun K hK => ?_)
    go_simp
    have E7 := Blk.new wr.drew #[.int .i64 e.r.o.wk, .int .i64 e.a.tr] 3
    have own7 := ownd.alloc (.cells #[.int .i64 e.r.o.wk, .int .i64 e.a.tr] 3)
    have G7 := Gd.alloc (.cells #[.int .i64 e.r.o.wk, .int .i64 e.a.tr] 3)
    have A7 := ((unhide HEK).chg G7 hbl (by simp)).all
    refine hK.out _ _ ⟨A7.2.2.2.2.2.1, A7.2.2.2.2.2.2.2.2.2.1⟩ (fun hH2 => ?_)
    clear hK K hH
    have hH := hH2
    clear hH2
    walk_nrm
    clear A7
    refine rd 15 rfl (fun K hK => ?_)
    refine wp_append_own _ (.tmp 40) (.tmp 54) 72 rfl w.heap.size 3 i0 _ 1 8 Tryz.underlying72 hi hz0 hz1 hz2 rfl (by decide) u5 (m * 2) (cellsP ps) rfl own7 ⟨wr.drew.heap.size, 0, none⟩ 2 2 (pairV (e.r.o.wk, e.a.tr)) rfl rfl E7.news (by simp [pairV, Value.oneCell']) (by unfold maxLen; omega) (by omega) G7.size ?_
    intro v9 w9 own9 gr9 _
    have G9 := G7.grown gr9 (fun j hj => .inr (own7.lt j hj).1)
    have A9 := ((unhide HEK).chg G9 hbl (by simp)).all
    refine hK.out _ _ ⟨A9.2.2.2.2.2.1, A9.2.2.2.2.2.2.2.2.2.1⟩ (fun hH2 => ?_)
    clear hK K hH
    have hH := hH2
    clear hH2
    walk_nrm
    clear A9 gr9 own7 G7 E7
    refine tk 16 rfl hH ?_
    walk_nrm
    refine wpAnyH_done (by kernel_rfl) ?_ _
    refine NoPanic.normal ?_
    clear hH
    go_wp2
    go_roundw
    case rel => exact ⟨k + 1, by omega, by go_num, by rw [unhide HT, unhide HY]; simp only [Option.toList_some]; rw [cellsP_snoc, List.length_append, unhide HM]; simp only [List.length_cons, List.length_nil, Nat.add_mul, Nat.zero_add, Nat.one_mul]; exact own9, G9⟩
    case measure => go_light; simp [intOf]; omega
  ·have hki : ¬ (k : Int) < (n : Int) := by omega
   have hkn : l.take k = l := by rw [show k = l.length by rw [unhide HL]; omega, List.take_length]
   have HK := hide hkn
   clear hkn
   go_wp2
   go_ret
   rw [unhide HK] at hown
   exact ⟨_, rfl, hown, hG⟩
theorem evInfoR : (Tryz.prog.info? 112).map (fun i => (i.zero, i.size, i.bytes)) = some (some (.agg #[.int .i64 0, .int .i64 0, .int .i64 0, .int .i64 0, .int .i64 0, .int .i64 0, .int .i64 0, .int .i64 0, .int .i64 0, .int .i64 0, .int .i64 0, .int .i64 0, .int .i64 0, .int .i64 0]), 14, 112) := by kernel_rfl
theorem evInfoR1 : (Tryz.prog.info? 112).map (·.size) = some 14 := by kernel_rfl
theorem Blk.setWhole {w : World} {b : Nat} {c : Array Value} {ty : TypeId} (h : Blk w b c ty) (d : Array Value) (hd : d.size = c.size) : Blk (w.setCells b 0 d.toList) b d ty := by
 obtain ⟨c', h1, h2, h3⟩ := setCells_raw b ty d.toList 0 w c h
 have : c' = d := by
  apply Array.ext_getElem?
  intro i
  rw [h3 i]
  by_cases hi : i < d.size
  ·rw [if_pos ⟨Nat.zero_le _, by simpa using hi, by omega⟩]; simp
  ·rw [if_neg (by rw [← hd]; omega), Array.getElem?_eq_none (by omega), Array.getElem?_eq_none (by omega)]
 subst this
 exact h1
theorem recm_yield {S : World → Prop} {b o : Nat} {r : Rc} (hS : ∀ W, S W → RecAt W b o r) {ops : Array Oper} {op : Oper} {a : Act} {x : Operand} (hw : Region.wanted op (yielded ops a.tmps) = true) (ho : op.op = .load 110 x) (hx : a.eval x = .pointer (some ⟨b, o, none⟩)) :
  YieldsIf Tryz.prog ops S op (.agg r.cells) a :=
 yieldsIf_load_mid (P := Tryz.prog) hw 110 x ho b o hx r.list _ (fun w' hw' j v hv => by
  obtain ⟨h0, h1, h2, h3, h4, h5, h6⟩ := hS _ hw'
  have hj : j < 7 := (List.getElem?_eq_some_iff.1 hv).1
  rw [← hv]
  obtain rfl | rfl | rfl | rfl | rfl | rfl | rfl : j = 0 ∨ j = 1 ∨ j = 2 ∨ j = 3 ∨ j = 4 ∨ j = 5 ∨ j = 6 := by omega
  ·exact h0
  ·exact h1
  ·exact h2
  ·exact h3
  ·exact h4
  ·exact h5
  ·exact h6) Tryz.underlying110 rfl (by rw [recInfo]; rfl)
theorem wpList_store_jobE {ops : Array Oper} {rest : List Oper} {op : Oper} {a : Act} {w : World} {Q : Exit → Act → World → Prop} (hgd : op.guard = none) (x y : Operand) (ho : op.op = .store 99 x y) (b : Nat) (hx : a.eval x = .pointer (some ⟨b, 10, none⟩)) (jj : Jb) (hy : a.eval y = .agg #[.int .i64 jj.st, .int .i64 jj.wk, .int .i64 jj.tr, .int .i64 jj.un]) (r : Rc) (u : An) (j0 : Jb) (t : TypeId) (h : Blk w b (Ev.cells ⟨r, u, j0⟩) t)
  (k : ∀ w', Blk w' b (Ev.cells ⟨r, u, jj⟩) t → Chg [b] w w' → w'.heap.size = w.heap.size → wpList Tryz.prog ops Q rest (a.put op.dst undef) w') : wpList Tryz.prog ops Q (op :: rest) a w := by
 refine wpList_store_mid hgd 99 x y ho b 10 #[.int .i64 jj.st, .int .i64 jj.wk, .int .i64 jj.tr, .int .i64 jj.un] hx hy (fun j hj => ⟨?_, ?_⟩) (by rw [jobInfoS]; rfl) (by simp [Value.oneCell']) (k _ ?_ ((Chg.refl _ _).setAll (by simp) _ _) (setCells_others b _ 10 w).2.2.2.1)
 ·rw [h.cell]
  have hj' : j < 4 := hj
  show ((Ev.list ⟨r, u, j0⟩).toArray[10 + j]?).isSome = true
  simp [Ev.list]
  omega
 ·rw [h.fz]
 ·exact (((h.set 10 _).set 11 _).set 12 _).set 13 _
theorem wpList_load_evR {ops : Array Oper} {rest : List Oper} {op : Oper} {a : Act} {w : World} {Q : Exit → Act → World → Prop} (hgd : op.guard = none) (x : Operand) (ho : op.op = .load 112 x) (b : Nat) (hx : a.eval x = .pointer (some ⟨b, 0, none⟩)) (e : Ev) (t : TypeId) (h : Blk w b e.cells t)
  (k : wpList Tryz.prog ops Q rest (a.put op.dst (.agg #[.int .i64 e.r.ep, .int .i64 e.r.o.k, .int .i64 e.r.o.now, .int .i64 e.r.o.jb, .int .i64 e.r.o.tr, .int .i64 e.r.o.wk, .int .i64 e.r.o.tm, .int .i64 e.a.code, .int .i64 e.a.jb, .int .i64 e.a.tr, .int .i64 e.j.st, .int .i64 e.j.wk, .int .i64 e.j.tr, .int .i64 e.j.un])) w) : wpList Tryz.prog ops Q (op :: rest) a w :=
 wpList_load_mid hgd 112 x ho b 0 hx e.list _ (fun j v hv => by rw [Nat.zero_add, ← hv]; have := h.ev j v hv; rw [Nat.zero_add] at this; rw [this, hv]) Tryz.underlying112 rfl (by rw [evInfoR1]; rfl) k
set_option maxRecDepth 100000 in
set_option maxHeartbeats 8000000 in
theorem evof_any (a : Option Addr) (n cap : Nat) (f : Nat → Int) (w : World) (hn4 : n ≤ 4000) (hcap : n ≤ cap) (h : Byt w a n f) :
  Calls Tryz.prog 46 #[.slice a n cap] w fun e w' => ∃ v, e = .returned v ∧ w'.ownsRow w.heap.size 112 14 v (allR n f).length (cellsE (evs (allR n f))) ∧ Chg [] w w' := by
 obtain ⟨i0, hi, hz0, hz1, hz2⟩ := kInfoParts evInfoR
 have HB := hide h
 clear h
 have hfew := allR_few n f
 obtain ⟨rs, hrs⟩ : ∃ rs, rs = allR n f := ⟨_, rfl⟩
 rw [← hrs] at hfew ⊢
 have HRS := hide hrs
 clear hrs
 obtain ⟨m, hm⟩ : ∃ m, m = rs.length := ⟨_, rfl⟩
 rw [← hm] at hfew ⊢
 have HM := hide hm
 clear hm
 go_enter Tryz.func46, Tryz.ntmps46
 go_wp2_with fail
 refine (rsof_any a n cap f _ hn4 hcap (unhide HB)).mono ?_
 rintro e w1 ⟨v, rfl, own1, g1⟩
 rw [← unhide HRS, ← unhide HM] at own1
 obtain ⟨ar, c1, rfl, hc1, -, R1⟩ := own_recs own1 (unhide HM)
 have HR1 := hide R1
 clear own1 R1
 go_wp2_with fail
 go_loopw [4, 6] (fun v i wr => ∃ k : Nat, k ≤ m ∧ i = .int .i64 k ∧ wr.ownsRow w1.heap.size 112 14 v k (cellsE (evs (rs.take k))) ∧ Has 103 wr w1.heap.size (behindT (rs.take k)) ∧ Chg [] w1 wr) (fun _ i _ => m - (intOf i).toNat)
 case atStart => exact ⟨0, by omega, rfl, World.ownsRow_nil _ _ _ _, Blk.new w1 _ _, (Chg.refl _ _).alloc _⟩
 case round =>
  obtain ⟨k, hk, rfl, hown, hB, hG⟩ := hrel
  by_cases hlt : k < m
  ·have hki : (k : Int) < (m : Int) := by omega
   have hk0 : (0 : Int) ≤ (k : Int) := by omega
   rcases unhide HR1 with h0 | ⟨bl, off, rfl, hbl, hO⟩
   ·omega
   have HRK := hide (hO k hlt)
   obtain ⟨p0, p1, p2, p3, p4, p5, p6⟩ := (hO k hlt).chg hG hbl
   have hbl' := Nat.lt_of_lt_of_le hbl hG.size
   have HT := hide (take_snocR rs (k := k) (by rw [← unhide HM]; exact hlt))
   have HE := hide (evs_snoc_take rs (k := k) (by rw [← unhide HM]; exact hlt))
   clear hO
   generalize atR rs k = r at *
   generalize hT : behindT (rs.take k) = T at *
   have HI : Inv T := hT ▸ behindT_inv _
   have HTE := hide hT
   have lT := hB.lt
   clear hT
   go_wp2_with (go_at_call 70; refine (bdo_all w1.heap.size r.o T _ hB HI).mono ?_; rintro e w4 ⟨rfl, hB4, g4⟩; have G4 := hG.trans g4 (by simp); have own4 := own_keep hown g4 (by simp; exact own_blk_ne hown hB (by decide)); clear g4)
   obtain ⟨u, hu⟩ : ∃ u, u = (doT T r.o).2 := ⟨_, rfl⟩
   rw [← hu]
   have HU := hide hu
   clear hu hown hB p0 p1 p2 p3 p4 p5 p6
   have A5 := Blk.new w4 #[.int .i64 u.code, .int .i64 u.jb, .int .i64 u.tr] 95
   have B5 := hB4.alloc (.cells #[.int .i64 u.code, .int .i64 u.jb, .int .i64 u.tr] 95)
   have own5 := own4.alloc (.cells #[.int .i64 u.code, .int .i64 u.jb, .int .i64 u.tr] 95)
   have G5 := (G4.alloc (.cells #[.int .i64 u.code, .int .i64 u.jb, .int .i64 u.tr] 95)).drew
   clear hB4 own4 G4 hG
   generalize hW5 : w4.alloc (.cells #[.int .i64 u.code, .int .i64 u.jb, .int .i64 u.tr] 95) = w5 at *
   clear hW5
   replace A5 : Blk w5.drew w4.heap.size _ _ := A5
   replace B5 : Has _ w5.drew w1.heap.size _ := B5
   replace own5 : w5.drew.ownsRow _ _ _ _ _ _ := own5
   refine wp_region_noPanic ?_
   refine wp_region_held_drew (S := (fun w' => RecAt w' bl (off + k * 7) r ∧ Blk w' w4.heap.size #[.int .i64 u.code, .int .i64 u.jb, .int .i64 u.tr] 95)) (by kernel_rfl) ⟨(unhide HRK).chg G5 hbl, A5⟩ (fun hH => ?_)
   generalize hWd : w5.drew = wd at *
   clear hWd
   refine tk 0 rfl hH ?_
   walk_nrm
   refine tk 1 rfl hH ?_
   walk_nrm
   refine tk 2 rfl hH ?_
   walk_nrm
   refine wpAnyH_take (i := 3) (v := _) rfl (by kernel_rfl) (by kernel_rfl) (by kernel_rfl) (fun _ _ _ h => h) (recm_yield (r := r) (fun _ h => h.1) (by rfl) rfl rfl) hH ?_
   walk_nrm
   refine wpAnyH_take (i := 4) (v := _) rfl (by kernel_rfl) (by kernel_rfl) (by kernel_rfl) (fun _ _ _ h => h) (ans_yield (u := u) (fun _ h => h.2) (by rfl) rfl rfl) hH ?_
   walk_nrm
   unfold ansV Rc.cells
   refine tk 5 rfl hH ?_
   walk_nrm
   refine rd 6 rfl (fun K hK => ?_)
   go_simp
   have E6 := Blk.new wd #[.int .i64 0, .int .i64 0, .int .i64 0, .int .i64 0, .int .i64 0, .int .i64 0, .int .i64 0, .int .i64 0, .int .i64 0, .int .i64 0, .int .i64 0, .int .i64 0, .int .i64 0, .int .i64 0] 112
   have B6 := B5.alloc (.cells #[.int .i64 0, .int .i64 0, .int .i64 0, .int .i64 0, .int .i64 0, .int .i64 0, .int .i64 0, .int .i64 0, .int .i64 0, .int .i64 0, .int .i64 0, .int .i64 0, .int .i64 0, .int .i64 0] 112)
   have own6 := own5.alloc (.cells #[.int .i64 0, .int .i64 0, .int .i64 0, .int .i64 0, .int .i64 0, .int .i64 0, .int .i64 0, .int .i64 0, .int .i64 0, .int .i64 0, .int .i64 0, .int .i64 0, .int .i64 0, .int .i64 0] 112)
   have G6 := G5.alloc (.cells #[.int .i64 0, .int .i64 0, .int .i64 0, .int .i64 0, .int .i64 0, .int .i64 0, .int .i64 0, .int .i64 0, .int .i64 0, .int .i64 0, .int .i64 0, .int .i64 0, .int .i64 0, .int .i64 0] 112)
   have z5 : w4.heap.size < wd.heap.size := A5.lt
   have hz5 := G5.size
   have nR := fun x h => (own5.lt x h).2
   refine hK.out _ _ ⟨(unhide HRK).chg G6 hbl, hH.2.alloc _⟩ (fun hH2 => ?_)
   clear hK K hH
   have hH := hH2
   clear hH2
   walk_nrm
   clear B5 own5 G5
   generalize hW6 : wd.alloc _ = w6 at *
   clear hW6
   refine rd 7 rfl (fun K hK => ?_)
   refine wp_store_mid 112 _ _ rfl wd.heap.size 0 #[.int .i64 r.ep, .int .i64 r.o.k, .int .i64 r.o.now, .int .i64 r.o.jb, .int .i64 r.o.tr, .int .i64 r.o.wk, .int .i64 r.o.tm, .int .i64 u.code, .int .i64 u.jb, .int .i64 u.tr, .int .i64 0, .int .i64 0, .int .i64 0, .int .i64 0] rfl rfl (fun j hj => ⟨?hx, ?hy⟩) (by rw [evInfoR1]; rfl) (by simp [Value.oneCell']) ?_
   case hx => rw [Nat.zero_add, E6.cell]; simpa using hj
   case hy => rw [E6.fz]
   have n1 := hH.2
   have E7 := E6.setWhole #[.int .i64 r.ep, .int .i64 r.o.k, .int .i64 r.o.now, .int .i64 r.o.jb, .int .i64 r.o.tr, .int .i64 r.o.wk, .int .i64 r.o.tm, .int .i64 u.code, .int .i64 u.jb, .int .i64 u.tr, .int .i64 0, .int .i64 0, .int .i64 0, .int .i64 0] rfl
   have k7 := (Chg.refl [wd.heap.size] w6).setAll (b := wd.heap.size) (by simp) 0 (#[.int .i64 r.ep, .int .i64 r.o.k, .int .i64 r.o.now, .int .i64 r.o.jb, .int .i64 r.o.tr, .int .i64 r.o.wk, .int .i64 r.o.tm, .int .i64 u.code, .int .i64 u.jb, .int .i64 u.tr, .int .i64 0, .int .i64 0, .int .i64 0, .int .i64 0] : Array Value).toList
   have zb := hH.2.lt
   have B7 := B6.chg k7 (by simp; have := B6.lt; have := G6.size; intro e; rw [← e] at E6; unfold Blk at E6; unfold Has at B6; rw [E6] at B6; simp at B6)
   have own7 := own_keep own6 k7 (by simp; intro e; have := nR _ e; omega)
   have G7 := G6.trans k7 (by simp; exact hz5)
   refine hK.out _ _ ⟨(unhide HRK).chg G7 hbl, hH.2.chg k7 (by simp; omega)⟩ (fun hH2 => ?_)
   clear hK K hH
   have hH := hH2
   clear hH2
   walk_nrm
   clear k7 E6 B6 own6 G6 n1
   generalize hW7 : World.setCells _ _ _ _ = w7 at *
   clear hW7
   refine wpAnyH_done (by kernel_rfl) ?_ _
   refine NoPanic.normal ?_
   have A7 := hH.2
   clear hH
   obtain ⟨a0, a1, a2, -, -, -⟩ := A7.three
   obtain ⟨p0, p1, p2, p3, p4, p5, p6⟩ := (unhide HRK).chg G7 hbl
   have lA := A7.lt
   have lE := E7.lt
   have lP := Nat.lt_of_lt_of_le hbl G7.size
   have z7 := G7.size
   have HA7 := hide A7
   clear A7
   have zeb : w1.heap.size ≤ wd.heap.size := hz5
   have zab : w4.heap.size < wd.heap.size := z5
   generalize wd.heap.size = eb at *
   by_cases hc : u.code = 0
   ·have c0 : (u.code == 0) = true := by simpa using hc
    by_cases hq : r.o.k = 2
    ·have q0 : (r.o.k == 2) = true := by simpa using hq
     have HJ := hide (show evJ (doT T r.o).1 r.o u = jobA (doT T r.o).1 u.jb by unfold evJ; rw [if_pos hc, if_pos hq])
     clear hc hq
     have A7' := unhide HA7
     go_wp2_with fail
     refine (bjob_all w1.heap.size u.jb _ _ B7).mono ?_
     rintro e w8 ⟨rfl, g8⟩
     have B8 := B7.chg g8 (by simp)
     have own8 := own_chg own7 g8
     have G8 := G7.trans g8 (by simp)
     have E8 := E7.chg g8 (by simp)
     have A8 := A7'.chg g8 (by simp)
     clear a0 a1 a2 p0 p1 p2 p3 p4 p5 p6 lA lE lP z7
     obtain ⟨a0, a1, a2, -, -, -⟩ := A8.three
     obtain ⟨p0, p1, p2, p3, p4, p5, p6⟩ := (unhide HRK).chg G8 hbl
     have lA := A8.lt
     have lE := E8.lt
     have lP := Nat.lt_of_lt_of_le hbl G8.size
     have z8 := G8.size
     have HA8 := hide A8
     clear B7 own7 G7 E7 g8 A7' A8
     obtain ⟨jj, hjj⟩ : ∃ jj, jj = jobA (doT T r.o).1 u.jb := ⟨_, rfl⟩
     rw [← hjj] at HJ ⊢
     clear hjj
     have n1 : eb ≠ w1.heap.size := fun e => by rw [e] at E8; unfold Blk at E8; unfold Has at B8; rw [E8] at B8; simp at B8
     have n2 : u4.ownBlock ≠ some eb := fun e => by have := nR _ e; omega
     have nA : ¬ w4.heap.size = eb := by omega
     have nP : ¬ bl = eb := by omega
     have tok : True := trivial
     go_wp2_with (first
      | (refine wpList_store_jobE rfl _ _ rfl eb rfl jj rfl r u ⟨0, 0, 0, 0⟩ 112 ?hs ?_; (case hs => exact E8); intro wS ES kS zS; have _t := tok; clear tok; clear a0 a1 a2 p0 p1 p2 p3 p4 p5 p6; have GS := G8.trans kS (by simp; exact zeb); have AS := (unhide HA8).chg kS (by simpa using nA); have BS := B8.chg kS (by simpa using n1.symm); have ownS := own_keep own8 kS (by simpa using n2); obtain ⟨a0, a1, a2, -, -, -⟩ := AS.three; have kdS : wS.cell? ⟨bl, off + k * 7 + 1, none⟩ = some (.int .i64 r.o.k) := ((unhide HRK).chg GS hbl).2.1; have lAS := AS.lt; have lES := ES.lt; have lPS := Nat.lt_of_lt_of_le hbl GS.size; have zzS := GS.size; clear E8 kS zS AS B8 own8 G8 lA lE lP z8)
      | (refine wpList_load_evR rfl _ rfl eb rfl ⟨r, u, jj⟩ 112 ?hs ?_; (case hs => exact ES))
      | (at_builtin; refine wpList_append_own _ rfl (.tmp 70) (.tmp 72) 107 rfl w1.heap.size 112 i0 _ 14 112 Tryz.underlying107 hi hz0 hz1 hz2 rfl (by decide) u4 k (cellsE (evs (rs.take k))) rfl (ownS.alloc _) ⟨wS.heap.size, 0, none⟩ 1 1 (Ev.list ⟨r, u, jj⟩) rfl rfl (Blk.new _ (Ev.cells ⟨r, u, jj⟩) _).news (by simp [Ev.list, Value.oneCell']) (by unfold maxLen; omega) (by omega) (by simp; omega) ?_; intro v9 w9 own9 gr9 _; have B9 : Has _ w9 w1.heap.size _ := grown_heap gr9 (BS.alloc _) (own_blk_ne ownS BS (by decide)); have G9 := (GS.alloc _).grown gr9 (fun j hj => .inr (ownS.lt j hj).1); clear gr9))
     rw [show (⟨r, u, jj⟩ : Ev) = evOf T r by rw [← unhide HJ, unhide HU]; rfl] at own9
     go_roundw
     case rel => exact ⟨k + 1, by omega, by go_num, by rw [unhide HE, cellsE_snoc]; exact own9, by rw [unhide HT, behindT_snoc, unhide HTE]; exact B9, G9⟩
     case measure => go_light; simp [intOf]; omega
    ·have q0 : (r.o.k == 2) = false := by simpa using hq
     have HJ := hide (show evJ (doT T r.o).1 r.o u = jobA (doT T r.o).1 r.o.jb by unfold evJ; rw [if_pos hc, if_neg hq])
     clear hc hq
     have A7' := unhide HA7
     go_wp2_with fail
     refine (bjob_all w1.heap.size r.o.jb _ _ B7).mono ?_
     rintro e w8 ⟨rfl, g8⟩
     have B8 := B7.chg g8 (by simp)
     have own8 := own_chg own7 g8
     have G8 := G7.trans g8 (by simp)
     have E8 := E7.chg g8 (by simp)
     have A8 := A7'.chg g8 (by simp)
     clear a0 a1 a2 p0 p1 p2 p3 p4 p5 p6 lA lE lP z7
     obtain ⟨a0, a1, a2, -, -, -⟩ := A8.three
     obtain ⟨p0, p1, p2, p3, p4, p5, p6⟩ := (unhide HRK).chg G8 hbl
     have lA := A8.lt
     have lE := E8.lt
     have lP := Nat.lt_of_lt_of_le hbl G8.size
     have z8 := G8.size
     have HA8 := hide A8
     clear B7 own7 G7 E7 g8 A7' A8
     obtain ⟨jj, hjj⟩ : ∃ jj, jj = jobA (doT T r.o).1 r.o.jb := ⟨_, rfl⟩
     rw [← hjj] at HJ ⊢
     clear hjj
     have n1 : eb ≠ w1.heap.size := fun e => by rw [e] at E8; unfold Blk at E8; unfold Has at B8; rw [E8] at B8; simp at B8
     have n2 : u4.ownBlock ≠ some eb := fun e => by have := nR _ e; omega
     have nA : ¬ w4.heap.size = eb := by omega
     have nP : ¬ bl = eb := by omega
     have tok : True := trivial
     go_wp2_with (first
      | (refine wpList_store_jobE rfl _ _ rfl eb rfl jj rfl r u ⟨0, 0, 0, 0⟩ 112 ?hs ?_; (case hs => exact E8); intro wS ES kS zS; have _t := tok; clear tok; clear a0 a1 a2 p0 p1 p2 p3 p4 p5 p6; have GS := G8.trans kS (by simp; exact zeb); have AS := (unhide HA8).chg kS (by simpa using nA); have BS := B8.chg kS (by simpa using n1.symm); have ownS := own_keep own8 kS (by simpa using n2); obtain ⟨a0, a1, a2, -, -, -⟩ := AS.three; have kdS : wS.cell? ⟨bl, off + k * 7 + 1, none⟩ = some (.int .i64 r.o.k) := ((unhide HRK).chg GS hbl).2.1; have lAS := AS.lt; have lES := ES.lt; have lPS := Nat.lt_of_lt_of_le hbl GS.size; have zzS := GS.size; clear E8 kS zS AS B8 own8 G8 lA lE lP z8)
      | (refine wpList_load_evR rfl _ rfl eb rfl ⟨r, u, jj⟩ 112 ?hs ?_; (case hs => exact ES))
      | (at_builtin; refine wpList_append_own _ rfl (.tmp 70) (.tmp 72) 107 rfl w1.heap.size 112 i0 _ 14 112 Tryz.underlying107 hi hz0 hz1 hz2 rfl (by decide) u4 k (cellsE (evs (rs.take k))) rfl (ownS.alloc _) ⟨wS.heap.size, 0, none⟩ 1 1 (Ev.list ⟨r, u, jj⟩) rfl rfl (Blk.new _ (Ev.cells ⟨r, u, jj⟩) _).news (by simp [Ev.list, Value.oneCell']) (by unfold maxLen; omega) (by omega) (by simp; omega) ?_; intro v9 w9 own9 gr9 _; have B9 : Has _ w9 w1.heap.size _ := grown_heap gr9 (BS.alloc _) (own_blk_ne ownS BS (by decide)); have G9 := (GS.alloc _).grown gr9 (fun j hj => .inr (ownS.lt j hj).1); clear gr9))
     rw [show (⟨r, u, jj⟩ : Ev) = evOf T r by rw [← unhide HJ, unhide HU]; rfl] at own9
     go_roundw
     case rel => exact ⟨k + 1, by omega, by go_num, by rw [unhide HE, cellsE_snoc]; exact own9, by rw [unhide HT, behindT_snoc, unhide HTE]; exact B9, G9⟩
     case measure => go_light; simp [intOf]; omega
   ·have c0 : (u.code == 0) = false := by simpa using hc
    have HJ := hide (show evJ (doT T r.o).1 r.o u = ⟨0, 0, 0, 0⟩ by unfold evJ; rw [if_neg hc])
    clear hc
    obtain ⟨e0, e1, e2, e3, e4, e5, e6, e7, e8, e9, e10, e11, e12, e13⟩ := (Blk.ev (e := ⟨r, u, ⟨0, 0, 0, 0⟩⟩) E7).all
    simp only [Nat.zero_add] at e0 e1 e2 e3 e4 e5 e6 e7 e8 e9 e10 e11 e12 e13
    go_wp2_with (at_builtin; refine wpList_append_own _ rfl (.tmp 70) (.tmp 72) 107 rfl w1.heap.size 112 i0 _ 14 112 Tryz.underlying107 hi hz0 hz1 hz2 rfl (by decide) u4 k (cellsE (evs (rs.take k))) rfl (own7.alloc _) ⟨w7.heap.size, 0, none⟩ 1 1 (Ev.list ⟨r, u, ⟨0, 0, 0, 0⟩⟩) rfl rfl (Blk.new _ (Ev.cells ⟨r, u, ⟨0, 0, 0, 0⟩⟩) _).news (by simp [Ev.list, Value.oneCell']) (by unfold maxLen; omega) (by omega) (by simp; omega) ?_; intro v9 w9 own9 gr9 _; have B9 : Has _ w9 w1.heap.size _ := grown_heap gr9 (B7.alloc _) (own_blk_ne own7 B7 (by decide)); have G9 := (G7.alloc _).grown gr9 (fun j hj => .inr (own7.lt j hj).1); clear gr9)
    rw [show (⟨r, u, ⟨0, 0, 0, 0⟩⟩ : Ev) = evOf T r by rw [← unhide HJ, unhide HU]; rfl] at own9
    go_roundw
    case rel => exact ⟨k + 1, by omega, by go_num, by rw [unhide HE, cellsE_snoc]; exact own9, by rw [unhide HT, behindT_snoc, unhide HTE]; exact B9, G9⟩
    case measure => go_light; simp [intOf]; omega
  ·have hki : ¬ (k : Int) < (m : Int) := by omega
   have hkn : rs.take k = rs := by rw [show k = rs.length by rw [← unhide HM]; omega, List.take_length]
   have hkm : k = m := by omega
   have HK := hide hkn
   have HKM := hide hkm
   clear hkn hkm
   go_wp2
   go_ret
   rw [unhide HK, unhide HKM] at hown
   exact ⟨_, rfl, own_base hown g1.size, g1.trans hG (by simp)⟩
end Go.Proofs.YtllnjiljjodfdacGreatDoor
