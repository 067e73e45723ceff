/- For all steps the law GuildSerial returns true, and leaves them as they were; no condition. -/
import Derived.Test.YtgcikokfgcpkfabMgG4
import Derived.Test.YtgcikokfgcpkfabMGFrame
namespace Go.Proofs.Ytgcikokfgcpkfab
open Go.RowKit

/-- An order lies inside a step. -/
theorem ordX_yield {S : World → Prop} {ob : Nat} {k n keep : Int} {o : Od} {t : TypeId} (hS : ∀ W, S W → Blk W ob #[.int .i64 k, .int .i64 n, .int .i64 keep, .int .i64 o.k, .int .i64 o.now, .int .i64 o.jb, .int .i64 o.tr, .int .i64 o.wk, .int .i64 o.tm] t) {ops : Array Oper} {op : Oper} {a : Act} {x : Operand} (hw : Region.wanted op (yielded ops a.tmps) = true) (ho : op.op = .load 43 x) (hx : a.eval x = .pointer (some ⟨ob, 3, none⟩)) :
    YieldsIf Try.prog ops S op (odV o) a :=
  yieldsIf_load_mid (P := Try.prog) hw 43 x ho ob 3 hx [.int .i64 o.k, .int .i64 o.now, .int .i64 o.jb, .int .i64 o.tr, .int .i64 o.wk, .int .i64 o.tm] _ (fun w' hw' j v hv => by
    rw [(hS _ hw').cell]
    have hj : j < 6 := by
      rcases Nat.lt_or_ge j 6 with h | h
      · exact h
      · rw [List.getElem?_eq_none (by simpa using h)] at hv; cases hv
    rcases six hj with rfl | rfl | rfl | rfl | rfl | rfl <;> simpa using hv) Try.underlying43 rfl (by rw [ordInfo]; rfl)
theorem brd0 : #[.int .i64 0, .int .i64 0, .int .i64 0, .int .i64 0, .int .i64 0, .int .i64 0, .int .i64 0, .int .i64 0, .int .i64 0, .int .i64 0, .int .i64 0, .int .i64 0, .int .i64 0, .int .i64 0, .int .i64 0, .int .i64 0, .int .i64 0, .int .i64 0, .int .i64 0, .int .i64 0, .int .i64 0, .int .i64 0, .int .i64 0, .int .i64 0, .int .i64 0] = T0.cells := rfl

set_option maxRecDepth 100000 in
set_option maxHeartbeats 8000000 in
theorem gserial_any (a : Option Addr) (len cap : Nat) (fs : Nat → Sp) (W : World) (h : Sps W a len fs) :
    Calls Try.prog 11 #[.slice a len cap] W fun e w' => e = .returned (.bool true) ∧ Chg [] W w' := by
  have HH := hide h
  clear h
  by_cases hbig : 300 < len
  · have d1 : decide ((300 : Int) < (len : Int)) = true := by simp; omega
    go_enter Try.func11, Try.ntmps11
    go_wp2_with (go_at_call 40; refine (gbegun_any _).mono ?_; rintro e w1 ⟨rfl, G1⟩)
    go_ret
    exact ⟨rfl, G1⟩
  have d1 : decide ((300 : Int) < (len : Int)) = false := by simp; omega
  go_enter Try.func11, Try.ntmps11
  go_wp2_with (first
    | (go_at_call 40; refine (gbegun_any _).mono ?_; rintro e w1 ⟨rfl, G1⟩)
    | (go_at_call 41; refine (gnew_any _).mono ?_; rintro e w2 ⟨m0, rfl, C0⟩))
  obtain ⟨gb, hgb0⟩ : ∃ gb, m0.gb = gb := ⟨_, rfl⟩
  rw [hgb0]
  have k0 : Chg [] w2 (w2.alloc (.cells #[.int .i64 0, .int .i64 0, .int .i64 0, .int .i64 0, .int .i64 0, .int .i64 0, .int .i64 0, .int .i64 0, .int .i64 0, .int .i64 0, .int .i64 0, .int .i64 0, .int .i64 0, .int .i64 0, .int .i64 0, .int .i64 0, .int .i64 0, .int .i64 0, .int .i64 0, .int .i64 0, .int .i64 0, .int .i64 0, .int .i64 0, .int .i64 0, .int .i64 0] 74)) := (Chg.refl [] w2).alloc _
  have C1 := C0.fresh k0
  have z12 : w1.heap.size ≤ w2.heap.size := C0.ch.size
  clear C0
  have C0 := C1
  clear C1
  have BB : Has 74 (w2.alloc (.cells #[.int .i64 0, .int .i64 0, .int .i64 0, .int .i64 0, .int .i64 0, .int .i64 0, .int .i64 0, .int .i64 0, .int .i64 0, .int .i64 0, .int .i64 0, .int .i64 0, .int .i64 0, .int .i64 0, .int .i64 0, .int .i64 0, .int .i64 0, .int .i64 0, .int .i64 0, .int .i64 0, .int .i64 0, .int .i64 0, .int .i64 0, .int .i64 0, .int .i64 0] 74)) w2.heap.size (behindT (recsL G0.d.l)) := by rw [plG_0.recs]; exact Blk.new w2 _ _
  have HBB := hide BB
  clear BB k0
  have HC0 := hide C0
  clear C0
  go_loopw [5] (fun i wr => ∃ (k : Nat) (m : Gm) (s : Gd), k ≤ len ∧ i = .int .i64 k ∧ Gld w1 wr m s ∧ m.gb = gb ∧ Has 74 wr w2.heap.size (behindT (recsL s.d.l)) ∧ Hid (m.own w2.heap.size = 100)) (fun i _ => len - (intOf i).toNat)
  case atStart =>
    exact ⟨0, _, G0, by omega, rfl, unhide HC0, hgb0, unhide HBB, hide (grw_at m0 _ (Nat.le_refl _))⟩
  case round =>
    obtain ⟨k, m, s, hkl, rfl, C, hgb, BB, HO⟩ := hrel
    clear HC0 HBB hgb0
    by_cases hlt : k < len
    · have hki : (k : Int) < (len : Int) := by omega
      have hk0 : (0 : Int) ≤ (k : Int) := by omega
      rcases unhide HH with h0 | ⟨bl, off, rfl, hbl, hO⟩
      · omega
      have GW := G1.trans C.ch (by simp)
      obtain ⟨p0, p1, p2, p3, p4, p5, p6, p7, p8⟩ := (hO k hlt).chg GW hbl
      have lbl := Nat.lt_of_lt_of_le hbl GW.size
      clear hO
      have HC := hide C
      have zw := C.ch.size
      have zb := BB.lt
      have HBB := hide BB
      obtain ⟨rs, t, PL⟩ := C.pl
      have HR0 := hide PL.recs
      rw [PL.recs] at HBB
      obtain ⟨rs', t', PL', TL⟩ := PL.step (fs k)
      have HNOW := hide (fun h => stepG_now (s := s) (x := fs k) h)
      have HIV := hide (behindT_inv rs)
      have HTL := hide TL
      have HR1 := hide PL'.recs
      have HPL := hide PL'
      have hok0 := hide C.dsk.ok
      have few0 := C.dsk.few
      have hl0 : rs.length ≤ 1500 := by have := PL.len; omega
      obtain ⟨cd0, lg0⟩ := C.disk hgb
      have ldb := C.dsk.blk.lt
      clear PL PL' TL C BB
      generalize fs k = x at *
      obtain ⟨st, hst⟩ : ∃ st, st = stepG s x := ⟨_, rfl⟩
      rw [← hst] at HTL HR1 HPL HNOW
      have HST := hide hst
      clear hst
      go_wp2_with fail
      have kx : Chg [] wr (wr.alloc (.cells #[.int .i64 x.k, .int .i64 x.n, .int .i64 x.keep, .int .i64 x.o.k, .int .i64 x.o.now, .int .i64 x.o.jb, .int .i64 x.o.tr, .int .i64 x.o.wk, .int .i64 x.o.tm] 90)) := (Chg.refl [] wr).alloc _
      have C1 := (unhide HC).fresh kx
      have BX := Blk.new wr #[.int .i64 x.k, .int .i64 x.n, .int .i64 x.keep, .int .i64 x.o.k, .int .i64 x.o.now, .int .i64 x.o.jb, .int .i64 x.o.tr, .int .i64 x.o.wk, .int .i64 x.o.tm] 90
      have B1 := (unhide HBB).alloc (.cells #[.int .i64 x.k, .int .i64 x.n, .int .i64 x.keep, .int .i64 x.o.k, .int .i64 x.o.now, .int .i64 x.o.jb, .int .i64 x.o.tr, .int .i64 x.o.wk, .int .i64 x.o.tm] 90)
      have oB := grw_as m wr.heap.size zb (unhide HO)
      have oX := grw_at m wr.heap.size (Nat.le_refl wr.heap.size)
      have zx : (wr.alloc (.cells #[.int .i64 x.k, .int .i64 x.n, .int .i64 x.keep, .int .i64 x.o.k, .int .i64 x.o.now, .int .i64 x.o.jb, .int .i64 x.o.tr, .int .i64 x.o.wk, .int .i64 x.o.tm] 90)).heap.size = wr.heap.size + 1 := by simp
      obtain ⟨m1, hm1⟩ : ∃ m1 : Gm, m1 = { m with own := grw wr.heap.size m.own (fun _ => 100) } := ⟨_, rfl⟩
      rw [← hm1] at C1 oB oX
      have hgb1 : m1.gb = gb := by rw [hm1]; exact hgb
      generalize hW1 : wr.alloc (.cells #[.int .i64 x.k, .int .i64 x.n, .int .i64 x.keep, .int .i64 x.o.k, .int .i64 x.o.now, .int .i64 x.o.jb, .int .i64 x.o.tr, .int .i64 x.o.wk, .int .i64 x.o.tm] 90) = v1 at *
      have edb : m1.db = m.db := by rw [hm1]
      clear hW1 hm1 HC HBB HO kx cd0 lg0
      rw [← edb]
      refine (dbytes_any m1.db s.d.ep m1.v s.d.l _ _ C1.dsk).mono ?_
      rintro e v2 ⟨u2, rfl, own2, g2⟩
      obtain ⟨a2, c2, rfl, hc2, hB2⟩ := sl_byt (own_sl own2) (unhide hok0)
      have C2 := C1.keep g2 (by simp)
      have BX2 := BX.chg g2 (by simp)
      have B2 := B1.chg g2 (by simp)
      clear own2 C1 BX B1 edb
      go_wp2_with fail
      refine (all_any a2 s.d.l.length c2 (getB s.d.l) _ (by omega) hc2 hB2).mono ?_
      rintro e v3 ⟨u3, rfl, own3, g3⟩
      rw [recsL_all, unhide HR0] at own3
      obtain ⟨a3, c3, rfl, -, -, -⟩ := own_recs own3 rfl
      have C3 := C2.keep g3 (by simp)
      have BX3 := BX2.chg g3 (by simp)
      have B3 := B2.chg g3 (by simp)
      have z23 := g2.size
      have z33 := g3.size
      clear own3 g2 g3 hB2 hc2 C2 BX2 B2
      obtain ⟨x0, x1, x2, x3, x4, x5, x6, x7, x8⟩ : v3.cell? ⟨wr.heap.size, 0, none⟩ = some (.int .i64 x.k) ∧ v3.cell? ⟨wr.heap.size, 1, none⟩ = some (.int .i64 x.n) ∧ v3.cell? ⟨wr.heap.size, 2, none⟩ = some (.int .i64 x.keep) ∧ v3.cell? ⟨wr.heap.size, 3, none⟩ = some (.int .i64 x.o.k) ∧ v3.cell? ⟨wr.heap.size, 4, none⟩ = some (.int .i64 x.o.now) ∧ v3.cell? ⟨wr.heap.size, 5, none⟩ = some (.int .i64 x.o.jb) ∧ v3.cell? ⟨wr.heap.size, 6, none⟩ = some (.int .i64 x.o.tr) ∧ v3.cell? ⟨wr.heap.size, 7, none⟩ = some (.int .i64 x.o.wk) ∧ v3.cell? ⟨wr.heap.size, 8, none⟩ = some (.int .i64 x.o.tm) := ⟨BX3.cell 0, BX3.cell 1, BX3.cell 2, BX3.cell 3, BX3.cell 4, BX3.cell 5, BX3.cell 6, BX3.cell 7, BX3.cell 8⟩
      have lx3 := BX3.lt
      go_wp2_with fail
      refine (gstep_at w1 m1 s x gb _ C3 hgb1).mono ?_
      rintro e v4 ⟨rfl, m4, X4⟩
      rw [← unhide HST] at X4 ⊢
      obtain ⟨a, ea⟩ : ∃ a, a = st.2 := ⟨_, rfl⟩
      obtain ⟨s', es'⟩ : ∃ s', s' = st.1 := ⟨_, rfl⟩
      rw [← ea] at HTL ⊢
      rw [← es'] at HTL HR1 HPL HNOW X4
      clear ea es' HST
      have BX4 := X4.blk BX3 oX
      have B4 := X4.has B3 oB
      have oX4 := X4.ow _ BX3.lt oX
      have oB4 := X4.ow _ B3.lt oB
      have hgb4 : m4.gb = gb := X4.gb.trans hgb1
      obtain ⟨cd, lg⟩ := X4.g.disk hgb4
      have HX4 := hide X4
      have HBX4 := hide BX4
      have HB4 := hide B4
      clear X4 BX4 B4
      unfold ansV
      clear x0 x1 x2 x3 x4 x5 x6 x7 x8
      go_wp2_with fail
      clear cd lg
      have k4 := (Chg.refl [] v4).alloc (.cells #[.int .i64 a.code, .int .i64 a.jb, .int .i64 a.tr] 56)
      have X4 := unhide HX4
      have BX4 := unhide HBX4
      have B4 := unhide HB4
      clear HX4 HBX4 HB4
      obtain ⟨m5, C5, hgb5, edb, -, -, -, new5, as5⟩ := X4.g.alien k4
      have BA := Blk.new v4 #[.int .i64 a.code, .int .i64 a.jb, .int .i64 a.tr] 56
      have BX5 := BX4.alloc (.cells #[.int .i64 a.code, .int .i64 a.jb, .int .i64 a.tr] 56)
      have B5 := B4.alloc (.cells #[.int .i64 a.code, .int .i64 a.jb, .int .i64 a.tr] 56)
      have oX5 := as5 _ BX4.lt oX4
      have oB5 := as5 _ B4.lt oB4
      have oA5 := new5 v4.heap.size (Nat.le_refl _)
      replace hgb5 : m5.gb = gb := hgb5.trans hgb4
      have lxA : wr.heap.size < v4.heap.size := BX4.lt
      have lbA : w2.heap.size < v4.heap.size := B4.lt
      have z45 : (v4.alloc (.cells #[.int .i64 a.code, .int .i64 a.jb, .int .i64 a.tr] 56)).heap.size = v4.heap.size + 1 := by simp
      generalize hW5 : v4.alloc (.cells #[.int .i64 a.code, .int .i64 a.jb, .int .i64 a.tr] 56) = v5 at *
      clear hW5 X4 BX4 B4 oX4 oB4 k4 new5 as5 C3 BX3 B3 oX oB hgb1 hgb4
      rw [← edb]
      have hok5 := hide C5.dsk.ok
      have few5 := C5.dsk.few
      have hl1 : rs'.length ≤ 1500 := by have h8 := (unhide HPL).len; have h9 : s'.d.l.length ≤ 1500 := few5; omega
      clear edb
      refine (dbytes_any m5.db s'.d.ep m5.v s'.d.l _ _ C5.dsk).mono ?_
      rintro e v6 ⟨u6, rfl, own6, g6⟩
      obtain ⟨a6, c6, rfl, hc6, hB6⟩ := sl_byt (own_sl own6) (unhide hok5)
      have C6 := C5.keep g6 (by simp)
      have BX6 := BX5.chg g6 (by simp)
      have B6 := B5.chg g6 (by simp)
      have BA6 := BA.chg g6 (by simp)
      have z56 := g6.size
      clear own6 g6 C5 BX5 B5 BA
      go_wp2_with fail
      refine (all_any a6 s'.d.l.length c6 (getB s'.d.l) _ (by omega) hc6 hB6).mono ?_
      rintro e v7 ⟨u7, rfl, own7, g7⟩
      rw [recsL_all, unhide HR1] at own7
      obtain ⟨a7, c7, rfl, -, -, -⟩ := own_recs own7 rfl
      have C7 := C6.keep g7 (by simp)
      have BX7 := BX6.chg g7 (by simp)
      have B7 := B6.chg g7 (by simp)
      have BA7 := BA6.chg g7 (by simp)
      have z67 := g7.size
      clear own7 g7 hB6 hc6 C6 BX6 B6 BA6
      have fx7 := BX7.fz 4
      have cx4 : v7.cell? ⟨wr.heap.size, 4, none⟩ = some (.int .i64 x.o.now) := BX7.cell 4
      have lx7 := BX7.lt
      go_wp2_with fail
      refine (gnow_at w1 m5 s' gb _ C7 hgb5).mono ?_
      rintro e v7 ⟨rfl, rfl⟩
      obtain ⟨now, enow⟩ : ∃ now, now = s'.now := ⟨_, rfl⟩
      rw [← enow]
      have BX8 : Blk (v7.setCell ⟨wr.heap.size, 4, none⟩ (.int .i64 now)) wr.heap.size #[.int .i64 x.k, .int .i64 x.n, .int .i64 x.keep, .int .i64 x.o.k, .int .i64 now, .int .i64 x.o.jb, .int .i64 x.o.tr, .int .i64 x.o.wk, .int .i64 x.o.tm] 90 := BX7.set 4 (.int .i64 now)
      have g8 := (Chg.refl [wr.heap.size] v7).setCell (p := ⟨wr.heap.size, 4, none⟩) (by simp) (.int .i64 now)
      have C8 := C7.keep g8 (by intro y hy; simp at hy; subst hy; exact ⟨oX5, by omega⟩)
      have B8 := B7.chg g8 (by simp; omega)
      have BA8 := BA7.chg g8 (by simp; omega)
      have HNW : Hid (¬ x.k = 5 → now = s.now) := hide (fun h => enow.trans (unhide HNOW h))
      obtain ⟨x0, x1, x2, x3, x5, x6, x7, x8⟩ : v7.cell? ⟨wr.heap.size, 0, none⟩ = some (.int .i64 x.k) ∧ v7.cell? ⟨wr.heap.size, 1, none⟩ = some (.int .i64 x.n) ∧ v7.cell? ⟨wr.heap.size, 2, none⟩ = some (.int .i64 x.keep) ∧ v7.cell? ⟨wr.heap.size, 3, none⟩ = some (.int .i64 x.o.k) ∧ v7.cell? ⟨wr.heap.size, 5, none⟩ = some (.int .i64 x.o.jb) ∧ v7.cell? ⟨wr.heap.size, 6, none⟩ = some (.int .i64 x.o.tr) ∧ v7.cell? ⟨wr.heap.size, 7, none⟩ = some (.int .i64 x.o.wk) ∧ v7.cell? ⟨wr.heap.size, 8, none⟩ = some (.int .i64 x.o.tm) := ⟨BX7.cell 0, BX7.cell 1, BX7.cell 2, BX7.cell 3, BX7.cell 5, BX7.cell 6, BX7.cell 7, BX7.cell 8⟩
      obtain ⟨y0, y1, y2, -, -, -⟩ := BA7.three
      have la7 := BA7.lt
      have lb7 := B7.lt
      have zc7 := C7.ch.size
      have NEXT : ∀ (W' : World) (T : Tb), Chg [w2.heap.size] (v7.setCell ⟨wr.heap.size, 4, none⟩ (.int .i64 now)) W' → Has 74 W' w2.heap.size T → T = behindT rs' → ∃ (k' : Nat) (m : Gm) (s : Gd), k' ≤ len ∧ Value.int .i64 ((k : Int) + 1) = .int .i64 k' ∧ Gld w1 W' m s ∧ m.gb = gb ∧ Has 74 W' w2.heap.size (behindT (recsL s.d.l)) ∧ Hid (m.own w2.heap.size = 100) := fun W' T ch bb hT =>
        ⟨k + 1, m5, s', by omega, by simp, C8.keep ch (by intro y hy; simp at hy; subst hy; exact ⟨oB5, by omega⟩), hgb5, by rw [unhide HR1, ← hT]; exact bb, hide oB5⟩
      have HNX := hide NEXT
      have HC8 := hide C8
      have HBX8 := hide BX8
      have HBA8 := hide BA8
      have HB8 := hide B8
      clear NEXT C8 BX8 BA8 B8 enow HNOW C7 BX7 B7 BA7 g8 hok0 hok5 HR0 HR1 HPL
      by_cases k2 : x.k = 2
      · have b2 : (x.k == 2) = true := by simp [k2]
        have hnw : now = s.now := unhide HNW (by omega)
        by_cases hc : a.code = 0
        · have bc : (a.code == 0) = true := by simp [hc]
          have DO : (doT (behindT rs) (atO x.o now)).2 = a ∧ behindT rs' = (doT (behindT rs) (atO x.o now)).1 ∧ rs'.length = rs.length + 1 := by
            rw [hnw]
            rcases unhide HTL with ⟨_, _, e, e2⟩ | ⟨e, _⟩ | ⟨_, e⟩
            · rw [e, behindT_snoc]; exact ⟨e2, rfl, by simp⟩
            · omega
            · exact absurd hc (e k2).1
          have HDO := hide DO
          have HSAME : Hid ((doT (behindT rs) (atO x.o now)).1 = behindT rs') := hide DO.2.1.symm
          have dlen : (rs'.length : Int) = (rs.length : Int) + 1 := by rw [DO.2.2]; simp
          have HDL := hide dlen
          clear DO k2 hc hnw dlen
          go_wp2_with fail
          generalize hW8 : v7.setCell ⟨wr.heap.size, 4, none⟩ (.int .i64 now) = w8 at *
          clear hW8 x0 x1 x2 x3 x5 x6 x7 x8 y0 y1 y2 cx4 fx7 lx7 la7 lb7
          have dlen := unhide HDL
          have hwr : IntKind.i64.wrap ((rs.length : Int) + 1) = (rs.length : Int) + 1 := by simp only [IntKind.wrap, IntKind.bits, IntKind.signed]; simp; omega
          have lx8 := (unhide HBX8).lt
          refine wp_region_noPanic ?_
          refine wp_region_held_drew (S := (fun W' => Blk W' wr.heap.size #[.int .i64 x.k, .int .i64 x.n, .int .i64 x.keep, .int .i64 x.o.k, .int .i64 now, .int .i64 x.o.jb, .int .i64 x.o.tr, .int .i64 x.o.wk, .int .i64 x.o.tm] 90 ∧ Blk W' v4.heap.size #[.int .i64 a.code, .int .i64 a.jb, .int .i64 a.tr] 56)) (by kernel_rfl) ⟨unhide HBX8, unhide HBA8⟩ (fun hH => ?_)
          refine wpAnyH_take (i := 0) (v := ?_) rfl (by kernel_rfl) (by kernel_rfl) (by kernel_rfl) (fun _ _ _ h => h) (Or.inl ⟨by rfl, ?hzq1⟩) hH ?rzq1
          case hzq1 => (intro W' hSw; (try dsimp only at hSw); go_simp; try with_reducible rfl)
          walk_nrm
          refine wpAnyH_take (i := 1) (v := ?_) rfl (by kernel_rfl) (by kernel_rfl) (by kernel_rfl) (fun _ _ _ h => h) (Or.inl ⟨by rfl, ?hzq2⟩) hH ?rzq2
          case hzq2 => (intro W' hSw; (try dsimp only at hSw); go_simp; try with_reducible rfl)
          walk_nrm
          refine wpAnyH_take (i := 2) (v := _) rfl (by kernel_rfl) (by kernel_rfl) (by kernel_rfl) (fun _ _ _ h => h) (ordX_yield (o := atO x.o now) (fun _ h => h.1) (by rfl) rfl rfl) hH ?_
          walk_nrm
          refine wpAnyH_take (i := 4) (v := ?_) rfl (by kernel_rfl) (by kernel_rfl) (by kernel_rfl) (fun _ _ _ h => h) (Or.inl ⟨by rfl, ?hzq3⟩) hH ?rzq3
          case hzq3 => (intro W' hSw; (try dsimp only at hSw); obtain ⟨y0, y1, y2, -, -, -⟩ := hSw.2.three; have lz := hSw.2.lt; go_simp; try with_reducible rfl)
          walk_nrm
          refine wpAnyH_ready (rs := [3]) (by kernel_rfl) (by simp) ?_
          refine AllReadyH.cons rfl (fun K hK => ?_) AllReadyH.nil
          rw [if_pos (by rfl)]
          go_simp
          refine (bdo_all w2.heap.size (atO x.o now) (behindT rs) w8.drew (unhide HB8) (unhide HIV)).mono ?_
          rintro e w9 ⟨rfl, B9, g9⟩
          rw [(unhide HDO).1]
          have G9 : Chg [w2.heap.size] w8 w9 := ((Chg.refl [w2.heap.size] w8).drew).trans g9 (fun y hy => .inl hy)
          refine hK.out _ _ ⟨hH.1.chg g9 (by simp; omega), hH.2.chg g9 (by simp; omega)⟩ (fun hH2 => ?_)
          clear hK K hH
          have hH := hH2
          clear hH2
          walk_nrm
          refine wpAnyH_take (i := 5) (v := .bool false) rfl (by kernel_rfl) (by kernel_rfl) (by kernel_rfl) (fun _ _ _ h => h) (Or.inl ⟨by rfl, ?hzq4⟩) hH ?rzq4
          case hzq4 => (intro W' hSw; (try dsimp only at hSw); go_simp; (try simp); try with_reducible rfl)
          walk_nrm
          refine wpAnyH_take (i := 6) (v := ?_) rfl (by kernel_rfl) (by kernel_rfl) (by kernel_rfl) (fun _ _ _ h => h) (Or.inl ⟨by rfl, ?hzq5⟩) hH ?rzq5
          case hzq5 => (intro W' hSw; (try dsimp only at hSw); go_simp; try with_reducible rfl)
          walk_nrm
          refine wpAnyH_take (i := 7) (v := ?_) rfl (by kernel_rfl) (by kernel_rfl) (by kernel_rfl) (fun _ _ _ h => h) (Or.inl ⟨by rfl, ?hzq6⟩) hH ?rzq6
          case hzq6 => (intro W' hSw; (try dsimp only at hSw); go_simp; try with_reducible rfl)
          walk_nrm
          refine wpAnyH_take (i := 8) (v := ?_) rfl (by kernel_rfl) (by kernel_rfl) (by kernel_rfl) (fun _ _ _ h => h) (Or.inl ⟨by rfl, ?hzq7⟩) hH ?rzq7
          case hzq7 => (intro W' hSw; (try dsimp only at hSw); go_simp; try with_reducible rfl)
          walk_nrm
          refine wpAnyH_take (i := 9) (v := ?_) rfl (by kernel_rfl) (by kernel_rfl) (by kernel_rfl) (fun _ _ _ h => h) (Or.inl ⟨by rfl, ?hzq8⟩) hH ?rzq8
          case hzq8 => (intro W' hSw; (try dsimp only at hSw); go_simp; try with_reducible rfl)
          walk_nrm
          refine wpAnyH_take (i := 10) (v := ?_) rfl (by kernel_rfl) (by kernel_rfl) (by kernel_rfl) (fun _ _ _ h => h) (Or.inl ⟨by rfl, ?hzq9⟩) hH ?rzq9
          case hzq9 => (intro W' hSw; (try dsimp only at hSw); go_simp; try with_reducible rfl)
          walk_nrm
          refine wpAnyH_take (i := 11) (v := .bool false) rfl (by kernel_rfl) (by kernel_rfl) (by kernel_rfl) (fun _ _ _ h => h) (Or.inl ⟨by rfl, ?hzq10⟩) hH ?rzq10
          case hzq10 => (intro W' hSw; (try dsimp only at hSw); go_simp; (try simp [dlen, hwr]); try with_reducible rfl)
          walk_nrm
          refine wpAnyH_take (i := 12) (v := ?_) rfl (by kernel_rfl) (by kernel_rfl) (by kernel_rfl) (fun _ _ _ h => h) (Or.inl ⟨by rfl, ?hzq11⟩) hH ?rzq11
          case hzq11 => (intro W' hSw; (try dsimp only at hSw); go_simp; try with_reducible rfl)
          walk_nrm
          refine wpAnyH_done (by kernel_rfl) ?_ _
          refine NoPanic.normal ?_
          go_wp2
          go_roundw
          case rel => exact (unhide HNX) _ _ (G9) (B9) (unhide HSAME)
          case measure => go_light; simp [intOf]; omega
        · have bc : (a.code == 0) = false := by simpa using hc
          have ER : rs' = rs := by
            rcases unhide HTL with ⟨_, e, _⟩ | ⟨e, _⟩ | ⟨e, _⟩
            · exact absurd e hc
            · omega
            · exact e
          have DO : ∀ n, nodeG s' x.n = some n → n.dn = false → a.code ≠ 8 → (doT (behindT rs) (atO x.o now)).2 = a := by
            rw [hnw]
            rcases unhide HTL with ⟨_, e, _⟩ | ⟨e, _⟩ | ⟨_, e⟩
            · exact absurd e hc
            · omega
            · exact (e k2).2
          have HDD := hide DO
          have HSAME : Hid (behindT rs = behindT rs') := hide (by rw [ER])
          have dlen : ((rs'.length : Int) != (rs.length : Int)) = false := by simp [ER]
          clear DO k2 hc hnw
          have HER := hide ER
          clear ER
          go_wp2_with fail
          generalize hW8 : v7.setCell ⟨wr.heap.size, 4, none⟩ (.int .i64 now) = w8 at *
          clear hW8 x0 x1 x2 x3 x5 x6 x7 x8 y0 y1 y2 cx4 fx7 lx7 la7 lb7
          refine (gnode_at w1 m5 s' x.n gb _ (unhide HC8) hgb5).mono ?_
          rintro e w8 ⟨rfl, rfl⟩
          obtain ⟨y0, y1, y2, -, -, -⟩ := (unhide HBA8).three
          have la8 := (unhide HBA8).lt
          cases hn : nodeG s' x.n with
          | none =>
            have hv : nodeV m5 s' x.n = .pointer none := by unfold nodeV; rw [hn]; rfl
            rw [hv]
            clear hv hn
            go_wp2
            go_roundw
            case rel => exact (unhide HNX) _ (behindT rs) (Chg.refl _ _) (unhide HB8) (unhide HSAME)
            case measure => go_light; simp [intOf]; omega
          | some nd =>
            obtain ⟨i, hi, hxi, hxt, hs⟩ := nodeG_some hn
            have hv : nodeV m5 s' x.n = .pointer (some ⟨m5.nb i, 0, none⟩) := by unfold nodeV; rw [hn, hxt]; rfl
            rw [hv]
            have N8 := (unhide HC8).nod i nd hi hs
            have HDO' := hide (unhide HDD nd hn)
            clear hv hn hxi hxt hs
            go_wp2_with fail
            refine (ndown_any (m5.nb i) (m5.tb i) m5.db nd _ N8).mono ?_
            rintro e w8 ⟨rfl, rfl⟩
            clear N8
            cases hdn : nd.dn
            · by_cases h8 : a.code = 8
              · have b8 : (a.code != 8) = false := by simp [h8]
                clear h8
                go_wp2
                go_roundw
                case rel => exact (unhide HNX) _ (behindT rs) (Chg.refl _ _) (unhide HB8) (unhide HSAME)
                case measure => go_light; simp [intOf]; omega
              · have b8 : (a.code != 8) = true := by simpa using h8
                have HDO : Hid ((doT (behindT rs) (atO x.o now)).2 = a ∧ True) := hide ⟨unhide HDO' hdn h8, trivial⟩
                clear h8
                go_wp2_with fail
                clear y0 y1 y2 la8
                refine wp_region_noPanic ?_
                refine wp_region_held_drew (S := (Rds 74 w2.heap.size (behindT rs) wr.heap.size #[.int .i64 x.k, .int .i64 x.n, .int .i64 x.keep, .int .i64 x.o.k, .int .i64 now, .int .i64 x.o.jb, .int .i64 x.o.tr, .int .i64 x.o.wk, .int .i64 x.o.tm] 90)) (by kernel_rfl) ⟨unhide HB8, unhide HBX8⟩ (fun hH => ?_)
                refine wpAnyH_take (i := 0) (v := ?_) rfl (by kernel_rfl) (by kernel_rfl) (by kernel_rfl) (fun _ _ _ h => h) (Or.inl ⟨by rfl, ?hzq12⟩) hH ?rzq12
                case hzq12 => (intro W' hSw; (try dsimp only at hSw); go_simp; try with_reducible rfl)
                walk_nrm
                refine wpAnyH_take (i := 1) (v := ?_) rfl (by kernel_rfl) (by kernel_rfl) (by kernel_rfl) (fun _ _ _ h => h) (Or.inl ⟨by rfl, ?hzq13⟩) hH ?rzq13
                case hzq13 => (intro W' hSw; (try dsimp only at hSw); go_simp; try with_reducible rfl)
                walk_nrm
                refine wpAnyH_take (i := 2) (v := _) rfl (by kernel_rfl) (by kernel_rfl) (by kernel_rfl) (fun _ _ _ h => h) (rds_yield1 (by rfl) rfl rfl) hH ?_
                walk_nrm
                refine wpAnyH_take (i := 3) (v := ?_) rfl (by kernel_rfl) (by kernel_rfl) (by kernel_rfl) (fun _ _ _ h => h) (Or.inl ⟨by rfl, ?hzq14⟩) hH ?rzq14
                case hzq14 => (intro W' hSw; (try dsimp only at hSw); go_simp; try with_reducible rfl)
                walk_nrm
                refine wpAnyH_take (i := 4) (v := _) rfl (by kernel_rfl) (by kernel_rfl) (by kernel_rfl) (fun _ _ _ h => h) (ordX_yield (o := atO x.o now) (fun _ h => h.2) (by rfl) rfl rfl) hH ?_
                walk_nrm
                have G : Chg [] w8 w8.drew := (Chg.refl [] w8).drew
                have lx8 := (unhide HBX8).lt
                have lb8 := (unhide HB8).lt
                generalize hW0 : World.drew w8 = V0 at *
                clear hW0
                refine wpAnyH_ready (rs := [5, 9, 10]) (by kernel_rfl) (by simp) ?_
                refine AllReadyH.cons rfl (fun K hK => ?_) ?_
                · rw [if_pos (by rfl)]
                  go_simp
                  refine (did_any (behindT rs) (atO x.o now) _ (unhide HIV)).mono ?_
                  rintro e v2 ⟨rfl, g2⟩
                  refine hK.out _ _ ⟨hH.1.chg g2 (by simp), hH.2.chg g2 (by simp)⟩ (fun hH2 => ?_)
                  clear hK K
                  walk_nrm
                  replace G := G.trans g2 (by simp)
                  clear hH g2
                  have hH := hH2
                  clear hH2
                  refine wpAnyH_take (i := 6) (v := ?_) rfl (by kernel_rfl) (by kernel_rfl) (by kernel_rfl) (fun _ _ _ h => h) (Or.inl ⟨by rfl, ?hw1⟩) hH ?rw1
                  case hw1 => (intro W' hSw; go_simp; try with_reducible rfl)
                  walk_nrm
                  refine wpAnyH_take (i := 7) (v := ?_) rfl (by kernel_rfl) (by kernel_rfl) (by kernel_rfl) (fun _ _ _ h => h) (Or.inl ⟨by rfl, ?hw2⟩) hH ?rw2
                  case hw2 => (intro W' hSw; go_simp; try with_reducible rfl)
                  walk_nrm
                  refine wpAnyH_take (i := 8) (v := ?_) rfl (by kernel_rfl) (by kernel_rfl) (by kernel_rfl) (fun _ _ _ h => h) (Or.inl ⟨by rfl, ?hw3⟩) hH ?rw3
                  case hw3 => (intro W' hSw; go_simp; try with_reducible rfl)
                  walk_nrm
                  refine wpAnyH_ready (rs := [9, 10]) (by kernel_rfl) (by simp) ?_
                  refine AllReadyH.cons rfl (fun K hK => ?_) ?_
                  · rw [if_pos (by rfl)]
                    have zb9 := hH.1.lt
                    have zx9 := hH.2.lt
                    have zg9 := G.size
                    go_simp
                    refine hK.out _ _ ⟨hH.1.alloc _, hH.2.alloc _⟩ (fun hH2 => ?_)
                    clear hK K
                    walk_nrm
                    replace G := G.alloc (.cells #[.int .i64 0, .int .i64 0, .int .i64 0, .int .i64 0, .int .i64 0, .int .i64 0, .int .i64 0, .int .i64 0, .int .i64 0, .int .i64 0, .int .i64 0, .int .i64 0, .int .i64 0, .int .i64 0, .int .i64 0, .int .i64 0, .int .i64 0, .int .i64 0, .int .i64 0, .int .i64 0, .int .i64 0, .int .i64 0, .int .i64 0, .int .i64 0, .int .i64 0] 74)
                    have X := Blk.new v2 #[.int .i64 0, .int .i64 0, .int .i64 0, .int .i64 0, .int .i64 0, .int .i64 0, .int .i64 0, .int .i64 0, .int .i64 0, .int .i64 0, .int .i64 0, .int .i64 0, .int .i64 0, .int .i64 0, .int .i64 0, .int .i64 0, .int .i64 0, .int .i64 0, .int .i64 0, .int .i64 0, .int .i64 0, .int .i64 0, .int .i64 0, .int .i64 0, .int .i64 0] 74
                    replace X : Has 74 (v2.alloc (.cells #[.int .i64 0, .int .i64 0, .int .i64 0, .int .i64 0, .int .i64 0, .int .i64 0, .int .i64 0, .int .i64 0, .int .i64 0, .int .i64 0, .int .i64 0, .int .i64 0, .int .i64 0, .int .i64 0, .int .i64 0, .int .i64 0, .int .i64 0, .int .i64 0, .int .i64 0, .int .i64 0, .int .i64 0, .int .i64 0, .int .i64 0, .int .i64 0, .int .i64 0] 74)) v2.heap.size T0 := X
                    clear hH
                    have hH := hH2
                    clear hH2
                    generalize hW2 : v2.alloc _ = V2 at *
                    clear hW2
                    refine wpAnyH_ready (rs := [10]) (by kernel_rfl) (by simp) ?_
                    refine AllReadyH.cons rfl (fun K hK => ?_) ?_
                    · rw [if_pos (by rfl)]
                      have zb10 := hH.1.lt
                      have zx10 := hH.2.lt
                      have zg10 := G.size
                      go_simp
                      refine hK.out _ _ ⟨hH.1.alloc _, hH.2.alloc _⟩ (fun hH2 => ?_)
                      clear hK K
                      walk_nrm
                      replace G := G.alloc (.cells #[.int .i64 0, .int .i64 0, .int .i64 0] 56)
                      replace X := X.alloc (.cells #[.int .i64 0, .int .i64 0, .int .i64 0] 56)
                      have Y := Blk.new V2 #[.int .i64 0, .int .i64 0, .int .i64 0] 56
                      clear hH
                      have hH := hH2
                      clear hH2
                      generalize hW3 : V2.alloc _ = V3 at *
                      clear hW3
                      refine wpAnyH_ready (rs := [11]) (by kernel_rfl) (by simp) ?_
                      refine AllReadyH.cons rfl (fun K hK => ?_) AllReadyH.nil
                      rw [if_pos (by rfl)]
                      have n1 := zed_ne (by decide) ⟨_, X⟩ ⟨_, _, _, Y⟩
                      have n3 := zed_ne (by decide) ⟨_, hH.1⟩ ⟨_, _, _, Y⟩
                      refine wp_store_tab rfl rfl rfl X (fun v8 X8 g8 => ?_)
                      refine hK.out _ _ ⟨hH.1.chg g8 (by simp; omega), hH.2.chg g8 (by simp; omega)⟩ (fun hH8 => ?_)
                      clear hK K
                      walk_nrm
                      replace Y := Y.chg g8 (by simpa using n1.symm)
                      replace G := G.trans g8 (by simp; omega)
                      clear hH X g8
                      refine wpAnyH_ready (rs := [12]) (by kernel_rfl) (by simp) ?_
                      refine AllReadyH.cons rfl (fun K hK => ?_) AllReadyH.nil
                      rw [if_pos (by rfl)]
                      refine wp_store_ans (u := (doT (behindT rs) (atO x.o now)).2) rfl rfl rfl Y (fun v9 Y9 g9 => ?_)
                      refine hK.out _ _ ⟨hH8.1.chg g9 (by simp; omega), hH8.2.chg g9 (by simp; omega)⟩ (fun hH9 => ?_)
                      clear hK K
                      walk_nrm
                      have G9 := G.trans g9 (by simp; omega)
                      have B9 := hH9.1
                      clear hH9 hH8 g9 X8 Y G
                      refine wpAnyH_done (by kernel_rfl) ?_ _
                      refine NoPanic.normal ?_
                      generalize v2.heap.size = p5 at *
                      generalize V2.heap.size = p6 at *
                      have A9 := (unhide HBA8).chg G9 (by simp)
                      obtain ⟨a0, a1, a2, -, -, -⟩ := A9.three
                      rw [(unhide HDO).1] at Y9
                      obtain ⟨q0, q1, q2, -, -, -⟩ := Y9.three
                      have la9 := A9.lt
                      have lq9 := Y9.lt
                      clear A9
                      go_wp2
                      go_roundw
                      case rel => exact (unhide HNX) _ (behindT rs) (G9.wide (by simp)) (B9) (unhide HSAME)
                      case measure => go_light; simp [intOf]; omega
                    exact AllReadyH.nil
                  refine AllReadyH.cons rfl (fun K hK => ?_) ?_
                  · rw [if_pos (by rfl)]
                    have zb10 := hH.1.lt
                    have zx10 := hH.2.lt
                    have zg10 := G.size
                    go_simp
                    refine hK.out _ _ ⟨hH.1.alloc _, hH.2.alloc _⟩ (fun hH2 => ?_)
                    clear hK K
                    walk_nrm
                    replace G := G.alloc (.cells #[.int .i64 0, .int .i64 0, .int .i64 0] 56)
                    have Y := Blk.new v2 #[.int .i64 0, .int .i64 0, .int .i64 0] 56
                    clear hH
                    have hH := hH2
                    clear hH2
                    generalize hW4 : v2.alloc _ = V4 at *
                    clear hW4
                    refine wpAnyH_ready (rs := [9]) (by kernel_rfl) (by simp) ?_
                    refine AllReadyH.cons rfl (fun K hK => ?_) ?_
                    · rw [if_pos (by rfl)]
                      have zb9 := hH.1.lt
                      have zx9 := hH.2.lt
                      have zg9 := G.size
                      go_simp
                      refine hK.out _ _ ⟨hH.1.alloc _, hH.2.alloc _⟩ (fun hH2 => ?_)
                      clear hK K
                      walk_nrm
                      replace G := G.alloc (.cells #[.int .i64 0, .int .i64 0, .int .i64 0, .int .i64 0, .int .i64 0, .int .i64 0, .int .i64 0, .int .i64 0, .int .i64 0, .int .i64 0, .int .i64 0, .int .i64 0, .int .i64 0, .int .i64 0, .int .i64 0, .int .i64 0, .int .i64 0, .int .i64 0, .int .i64 0, .int .i64 0, .int .i64 0, .int .i64 0, .int .i64 0, .int .i64 0, .int .i64 0] 74)
                      replace Y := Y.alloc (.cells #[.int .i64 0, .int .i64 0, .int .i64 0, .int .i64 0, .int .i64 0, .int .i64 0, .int .i64 0, .int .i64 0, .int .i64 0, .int .i64 0, .int .i64 0, .int .i64 0, .int .i64 0, .int .i64 0, .int .i64 0, .int .i64 0, .int .i64 0, .int .i64 0, .int .i64 0, .int .i64 0, .int .i64 0, .int .i64 0, .int .i64 0, .int .i64 0, .int .i64 0] 74)
                      have X := Blk.new V4 #[.int .i64 0, .int .i64 0, .int .i64 0, .int .i64 0, .int .i64 0, .int .i64 0, .int .i64 0, .int .i64 0, .int .i64 0, .int .i64 0, .int .i64 0, .int .i64 0, .int .i64 0, .int .i64 0, .int .i64 0, .int .i64 0, .int .i64 0, .int .i64 0, .int .i64 0, .int .i64 0, .int .i64 0, .int .i64 0, .int .i64 0, .int .i64 0, .int .i64 0] 74
                      replace X : Has 74 (V4.alloc (.cells #[.int .i64 0, .int .i64 0, .int .i64 0, .int .i64 0, .int .i64 0, .int .i64 0, .int .i64 0, .int .i64 0, .int .i64 0, .int .i64 0, .int .i64 0, .int .i64 0, .int .i64 0, .int .i64 0, .int .i64 0, .int .i64 0, .int .i64 0, .int .i64 0, .int .i64 0, .int .i64 0, .int .i64 0, .int .i64 0, .int .i64 0, .int .i64 0, .int .i64 0] 74)) V4.heap.size T0 := X
                      clear hH
                      have hH := hH2
                      clear hH2
                      generalize hW5 : V4.alloc _ = V5 at *
                      clear hW5
                      refine wpAnyH_ready (rs := [11]) (by kernel_rfl) (by simp) ?_
                      refine AllReadyH.cons rfl (fun K hK => ?_) AllReadyH.nil
                      rw [if_pos (by rfl)]
                      have n1 := zed_ne (by decide) ⟨_, X⟩ ⟨_, _, _, Y⟩
                      have n3 := zed_ne (by decide) ⟨_, hH.1⟩ ⟨_, _, _, Y⟩
                      refine wp_store_tab rfl rfl rfl X (fun v8 X8 g8 => ?_)
                      refine hK.out _ _ ⟨hH.1.chg g8 (by simp; omega), hH.2.chg g8 (by simp; omega)⟩ (fun hH8 => ?_)
                      clear hK K
                      walk_nrm
                      replace Y := Y.chg g8 (by simpa using n1.symm)
                      replace G := G.trans g8 (by simp; omega)
                      clear hH X g8
                      refine wpAnyH_ready (rs := [12]) (by kernel_rfl) (by simp) ?_
                      refine AllReadyH.cons rfl (fun K hK => ?_) AllReadyH.nil
                      rw [if_pos (by rfl)]
                      refine wp_store_ans (u := (doT (behindT rs) (atO x.o now)).2) rfl rfl rfl Y (fun v9 Y9 g9 => ?_)
                      refine hK.out _ _ ⟨hH8.1.chg g9 (by simp; omega), hH8.2.chg g9 (by simp; omega)⟩ (fun hH9 => ?_)
                      clear hK K
                      walk_nrm
                      have G9 := G.trans g9 (by simp; omega)
                      have B9 := hH9.1
                      clear hH9 hH8 g9 X8 Y G
                      refine wpAnyH_done (by kernel_rfl) ?_ _
                      refine NoPanic.normal ?_
                      generalize V4.heap.size = p5 at *
                      generalize v2.heap.size = p6 at *
                      have A9 := (unhide HBA8).chg G9 (by simp)
                      obtain ⟨a0, a1, a2, -, -, -⟩ := A9.three
                      rw [(unhide HDO).1] at Y9
                      obtain ⟨q0, q1, q2, -, -, -⟩ := Y9.three
                      have la9 := A9.lt
                      have lq9 := Y9.lt
                      clear A9
                      go_wp2
                      go_roundw
                      case rel => exact (unhide HNX) _ (behindT rs) (G9.wide (by simp)) (B9) (unhide HSAME)
                      case measure => go_light; simp [intOf]; omega
                    exact AllReadyH.nil
                  exact AllReadyH.nil
                refine AllReadyH.cons rfl (fun K hK => ?_) ?_
                · rw [if_pos (by rfl)]
                  have zb9 := hH.1.lt
                  have zx9 := hH.2.lt
                  have zg9 := G.size
                  go_simp
                  refine hK.out _ _ ⟨hH.1.alloc _, hH.2.alloc _⟩ (fun hH2 => ?_)
                  clear hK K
                  walk_nrm
                  replace G := G.alloc (.cells #[.int .i64 0, .int .i64 0, .int .i64 0, .int .i64 0, .int .i64 0, .int .i64 0, .int .i64 0, .int .i64 0, .int .i64 0, .int .i64 0, .int .i64 0, .int .i64 0, .int .i64 0, .int .i64 0, .int .i64 0, .int .i64 0, .int .i64 0, .int .i64 0, .int .i64 0, .int .i64 0, .int .i64 0, .int .i64 0, .int .i64 0, .int .i64 0, .int .i64 0] 74)
                  have X := Blk.new V0 #[.int .i64 0, .int .i64 0, .int .i64 0, .int .i64 0, .int .i64 0, .int .i64 0, .int .i64 0, .int .i64 0, .int .i64 0, .int .i64 0, .int .i64 0, .int .i64 0, .int .i64 0, .int .i64 0, .int .i64 0, .int .i64 0, .int .i64 0, .int .i64 0, .int .i64 0, .int .i64 0, .int .i64 0, .int .i64 0, .int .i64 0, .int .i64 0, .int .i64 0] 74
                  replace X : Has 74 (V0.alloc (.cells #[.int .i64 0, .int .i64 0, .int .i64 0, .int .i64 0, .int .i64 0, .int .i64 0, .int .i64 0, .int .i64 0, .int .i64 0, .int .i64 0, .int .i64 0, .int .i64 0, .int .i64 0, .int .i64 0, .int .i64 0, .int .i64 0, .int .i64 0, .int .i64 0, .int .i64 0, .int .i64 0, .int .i64 0, .int .i64 0, .int .i64 0, .int .i64 0, .int .i64 0] 74)) V0.heap.size T0 := X
                  clear hH
                  have hH := hH2
                  clear hH2
                  generalize hW6 : V0.alloc _ = V6 at *
                  clear hW6
                  refine wpAnyH_ready (rs := [5, 10]) (by kernel_rfl) (by simp) ?_
                  refine AllReadyH.cons rfl (fun K hK => ?_) ?_
                  · rw [if_pos (by rfl)]
                    go_simp
                    refine (did_any (behindT rs) (atO x.o now) _ (unhide HIV)).mono ?_
                    rintro e v2 ⟨rfl, g2⟩
                    refine hK.out _ _ ⟨hH.1.chg g2 (by simp), hH.2.chg g2 (by simp)⟩ (fun hH2 => ?_)
                    clear hK K
                    walk_nrm
                    replace G := G.trans g2 (by simp)
                    replace X := X.chg g2 (by simp)
                    clear hH g2
                    have hH := hH2
                    clear hH2
                    refine wpAnyH_take (i := 6) (v := ?_) rfl (by kernel_rfl) (by kernel_rfl) (by kernel_rfl) (fun _ _ _ h => h) (Or.inl ⟨by rfl, ?hw4⟩) hH ?rw4
                    case hw4 => (intro W' hSw; go_simp; try with_reducible rfl)
                    walk_nrm
                    refine wpAnyH_take (i := 7) (v := ?_) rfl (by kernel_rfl) (by kernel_rfl) (by kernel_rfl) (fun _ _ _ h => h) (Or.inl ⟨by rfl, ?hw5⟩) hH ?rw5
                    case hw5 => (intro W' hSw; go_simp; try with_reducible rfl)
                    walk_nrm
                    refine wpAnyH_take (i := 8) (v := ?_) rfl (by kernel_rfl) (by kernel_rfl) (by kernel_rfl) (fun _ _ _ h => h) (Or.inl ⟨by rfl, ?hw6⟩) hH ?rw6
                    case hw6 => (intro W' hSw; go_simp; try with_reducible rfl)
                    walk_nrm
                    refine wpAnyH_ready (rs := [10]) (by kernel_rfl) (by simp) ?_
                    refine AllReadyH.cons rfl (fun K hK => ?_) ?_
                    · rw [if_pos (by rfl)]
                      have zb10 := hH.1.lt
                      have zx10 := hH.2.lt
                      have zg10 := G.size
                      go_simp
                      refine hK.out _ _ ⟨hH.1.alloc _, hH.2.alloc _⟩ (fun hH2 => ?_)
                      clear hK K
                      walk_nrm
                      replace G := G.alloc (.cells #[.int .i64 0, .int .i64 0, .int .i64 0] 56)
                      replace X := X.alloc (.cells #[.int .i64 0, .int .i64 0, .int .i64 0] 56)
                      have Y := Blk.new v2 #[.int .i64 0, .int .i64 0, .int .i64 0] 56
                      clear hH
                      have hH := hH2
                      clear hH2
                      generalize hW8 : v2.alloc _ = V8 at *
                      clear hW8
                      refine wpAnyH_ready (rs := [11]) (by kernel_rfl) (by simp) ?_
                      refine AllReadyH.cons rfl (fun K hK => ?_) AllReadyH.nil
                      rw [if_pos (by rfl)]
                      have n1 := zed_ne (by decide) ⟨_, X⟩ ⟨_, _, _, Y⟩
                      have n3 := zed_ne (by decide) ⟨_, hH.1⟩ ⟨_, _, _, Y⟩
                      refine wp_store_tab rfl rfl rfl X (fun v8 X8 g8 => ?_)
                      refine hK.out _ _ ⟨hH.1.chg g8 (by simp; omega), hH.2.chg g8 (by simp; omega)⟩ (fun hH8 => ?_)
                      clear hK K
                      walk_nrm
                      replace Y := Y.chg g8 (by simpa using n1.symm)
                      replace G := G.trans g8 (by simp; omega)
                      clear hH X g8
                      refine wpAnyH_ready (rs := [12]) (by kernel_rfl) (by simp) ?_
                      refine AllReadyH.cons rfl (fun K hK => ?_) AllReadyH.nil
                      rw [if_pos (by rfl)]
                      refine wp_store_ans (u := (doT (behindT rs) (atO x.o now)).2) rfl rfl rfl Y (fun v9 Y9 g9 => ?_)
                      refine hK.out _ _ ⟨hH8.1.chg g9 (by simp; omega), hH8.2.chg g9 (by simp; omega)⟩ (fun hH9 => ?_)
                      clear hK K
                      walk_nrm
                      have G9 := G.trans g9 (by simp; omega)
                      have B9 := hH9.1
                      clear hH9 hH8 g9 X8 Y G
                      refine wpAnyH_done (by kernel_rfl) ?_ _
                      refine NoPanic.normal ?_
                      generalize V0.heap.size = p5 at *
                      generalize v2.heap.size = p6 at *
                      have A9 := (unhide HBA8).chg G9 (by simp)
                      obtain ⟨a0, a1, a2, -, -, -⟩ := A9.three
                      rw [(unhide HDO).1] at Y9
                      obtain ⟨q0, q1, q2, -, -, -⟩ := Y9.three
                      have la9 := A9.lt
                      have lq9 := Y9.lt
                      clear A9
                      go_wp2
                      go_roundw
                      case rel => exact (unhide HNX) _ (behindT rs) (G9.wide (by simp)) (B9) (unhide HSAME)
                      case measure => go_light; simp [intOf]; omega
                    exact AllReadyH.nil
                  refine AllReadyH.cons rfl (fun K hK => ?_) ?_
                  · rw [if_pos (by rfl)]
                    have zb10 := hH.1.lt
                    have zx10 := hH.2.lt
                    have zg10 := G.size
                    go_simp
                    refine hK.out _ _ ⟨hH.1.alloc _, hH.2.alloc _⟩ (fun hH2 => ?_)
                    clear hK K
                    walk_nrm
                    replace G := G.alloc (.cells #[.int .i64 0, .int .i64 0, .int .i64 0] 56)
                    replace X := X.alloc (.cells #[.int .i64 0, .int .i64 0, .int .i64 0] 56)
                    have Y := Blk.new V6 #[.int .i64 0, .int .i64 0, .int .i64 0] 56
                    clear hH
                    have hH := hH2
                    clear hH2
                    generalize hW9 : V6.alloc _ = V9 at *
                    clear hW9
                    refine wpAnyH_ready (rs := [5]) (by kernel_rfl) (by simp) ?_
                    refine AllReadyH.cons rfl (fun K hK => ?_) ?_
                    · rw [if_pos (by rfl)]
                      go_simp
                      refine (did_any (behindT rs) (atO x.o now) _ (unhide HIV)).mono ?_
                      rintro e v2 ⟨rfl, g2⟩
                      refine hK.out _ _ ⟨hH.1.chg g2 (by simp), hH.2.chg g2 (by simp)⟩ (fun hH2 => ?_)
                      clear hK K
                      walk_nrm
                      replace G := G.trans g2 (by simp)
                      replace X := X.chg g2 (by simp)
                      replace Y := Y.chg g2 (by simp)
                      clear hH g2
                      have hH := hH2
                      clear hH2
                      refine wpAnyH_take (i := 6) (v := ?_) rfl (by kernel_rfl) (by kernel_rfl) (by kernel_rfl) (fun _ _ _ h => h) (Or.inl ⟨by rfl, ?hw7⟩) hH ?rw7
                      case hw7 => (intro W' hSw; go_simp; try with_reducible rfl)
                      walk_nrm
                      refine wpAnyH_take (i := 7) (v := ?_) rfl (by kernel_rfl) (by kernel_rfl) (by kernel_rfl) (fun _ _ _ h => h) (Or.inl ⟨by rfl, ?hw8⟩) hH ?rw8
                      case hw8 => (intro W' hSw; go_simp; try with_reducible rfl)
                      walk_nrm
                      refine wpAnyH_take (i := 8) (v := ?_) rfl (by kernel_rfl) (by kernel_rfl) (by kernel_rfl) (fun _ _ _ h => h) (Or.inl ⟨by rfl, ?hw9⟩) hH ?rw9
                      case hw9 => (intro W' hSw; go_simp; try with_reducible rfl)
                      walk_nrm
                      refine wpAnyH_ready (rs := [11]) (by kernel_rfl) (by simp) ?_
                      refine AllReadyH.cons rfl (fun K hK => ?_) AllReadyH.nil
                      rw [if_pos (by rfl)]
                      have n1 := zed_ne (by decide) ⟨_, X⟩ ⟨_, _, _, Y⟩
                      have n3 := zed_ne (by decide) ⟨_, hH.1⟩ ⟨_, _, _, Y⟩
                      refine wp_store_tab rfl rfl rfl X (fun v8 X8 g8 => ?_)
                      refine hK.out _ _ ⟨hH.1.chg g8 (by simp; omega), hH.2.chg g8 (by simp; omega)⟩ (fun hH8 => ?_)
                      clear hK K
                      walk_nrm
                      replace Y := Y.chg g8 (by simpa using n1.symm)
                      replace G := G.trans g8 (by simp; omega)
                      clear hH X g8
                      refine wpAnyH_ready (rs := [12]) (by kernel_rfl) (by simp) ?_
                      refine AllReadyH.cons rfl (fun K hK => ?_) AllReadyH.nil
                      rw [if_pos (by rfl)]
                      refine wp_store_ans (u := (doT (behindT rs) (atO x.o now)).2) rfl rfl rfl Y (fun v9 Y9 g9 => ?_)
                      refine hK.out _ _ ⟨hH8.1.chg g9 (by simp; omega), hH8.2.chg g9 (by simp; omega)⟩ (fun hH9 => ?_)
                      clear hK K
                      walk_nrm
                      have G9 := G.trans g9 (by simp; omega)
                      have B9 := hH9.1
                      clear hH9 hH8 g9 X8 Y G
                      refine wpAnyH_done (by kernel_rfl) ?_ _
                      refine NoPanic.normal ?_
                      generalize V0.heap.size = p5 at *
                      generalize V6.heap.size = p6 at *
                      have A9 := (unhide HBA8).chg G9 (by simp)
                      obtain ⟨a0, a1, a2, -, -, -⟩ := A9.three
                      rw [(unhide HDO).1] at Y9
                      obtain ⟨q0, q1, q2, -, -, -⟩ := Y9.three
                      have la9 := A9.lt
                      have lq9 := Y9.lt
                      clear A9
                      go_wp2
                      go_roundw
                      case rel => exact (unhide HNX) _ (behindT rs) (G9.wide (by simp)) (B9) (unhide HSAME)
                      case measure => go_light; simp [intOf]; omega
                    exact AllReadyH.nil
                  exact AllReadyH.nil
                refine AllReadyH.cons rfl (fun K hK => ?_) ?_
                · rw [if_pos (by rfl)]
                  have zb10 := hH.1.lt
                  have zx10 := hH.2.lt
                  have zg10 := G.size
                  go_simp
                  refine hK.out _ _ ⟨hH.1.alloc _, hH.2.alloc _⟩ (fun hH2 => ?_)
                  clear hK K
                  walk_nrm
                  replace G := G.alloc (.cells #[.int .i64 0, .int .i64 0, .int .i64 0] 56)
                  have Y := Blk.new V0 #[.int .i64 0, .int .i64 0, .int .i64 0] 56
                  clear hH
                  have hH := hH2
                  clear hH2
                  generalize hW11 : V0.alloc _ = V11 at *
                  clear hW11
                  refine wpAnyH_ready (rs := [5, 9]) (by kernel_rfl) (by simp) ?_
                  refine AllReadyH.cons rfl (fun K hK => ?_) ?_
                  · rw [if_pos (by rfl)]
                    go_simp
                    refine (did_any (behindT rs) (atO x.o now) _ (unhide HIV)).mono ?_
                    rintro e v2 ⟨rfl, g2⟩
                    refine hK.out _ _ ⟨hH.1.chg g2 (by simp), hH.2.chg g2 (by simp)⟩ (fun hH2 => ?_)
                    clear hK K
                    walk_nrm
                    replace G := G.trans g2 (by simp)
                    replace Y := Y.chg g2 (by simp)
                    clear hH g2
                    have hH := hH2
                    clear hH2
                    refine wpAnyH_take (i := 6) (v := ?_) rfl (by kernel_rfl) (by kernel_rfl) (by kernel_rfl) (fun _ _ _ h => h) (Or.inl ⟨by rfl, ?hw10⟩) hH ?rw10
                    case hw10 => (intro W' hSw; go_simp; try with_reducible rfl)
                    walk_nrm
                    refine wpAnyH_take (i := 7) (v := ?_) rfl (by kernel_rfl) (by kernel_rfl) (by kernel_rfl) (fun _ _ _ h => h) (Or.inl ⟨by rfl, ?hw11⟩) hH ?rw11
                    case hw11 => (intro W' hSw; go_simp; try with_reducible rfl)
                    walk_nrm
                    refine wpAnyH_take (i := 8) (v := ?_) rfl (by kernel_rfl) (by kernel_rfl) (by kernel_rfl) (fun _ _ _ h => h) (Or.inl ⟨by rfl, ?hw12⟩) hH ?rw12
                    case hw12 => (intro W' hSw; go_simp; try with_reducible rfl)
                    walk_nrm
                    refine wpAnyH_ready (rs := [9]) (by kernel_rfl) (by simp) ?_
                    refine AllReadyH.cons rfl (fun K hK => ?_) ?_
                    · rw [if_pos (by rfl)]
                      have zb9 := hH.1.lt
                      have zx9 := hH.2.lt
                      have zg9 := G.size
                      go_simp
                      refine hK.out _ _ ⟨hH.1.alloc _, hH.2.alloc _⟩ (fun hH2 => ?_)
                      clear hK K
                      walk_nrm
                      replace G := G.alloc (.cells #[.int .i64 0, .int .i64 0, .int .i64 0, .int .i64 0, .int .i64 0, .int .i64 0, .int .i64 0, .int .i64 0, .int .i64 0, .int .i64 0, .int .i64 0, .int .i64 0, .int .i64 0, .int .i64 0, .int .i64 0, .int .i64 0, .int .i64 0, .int .i64 0, .int .i64 0, .int .i64 0, .int .i64 0, .int .i64 0, .int .i64 0, .int .i64 0, .int .i64 0] 74)
                      replace Y := Y.alloc (.cells #[.int .i64 0, .int .i64 0, .int .i64 0, .int .i64 0, .int .i64 0, .int .i64 0, .int .i64 0, .int .i64 0, .int .i64 0, .int .i64 0, .int .i64 0, .int .i64 0, .int .i64 0, .int .i64 0, .int .i64 0, .int .i64 0, .int .i64 0, .int .i64 0, .int .i64 0, .int .i64 0, .int .i64 0, .int .i64 0, .int .i64 0, .int .i64 0, .int .i64 0] 74)
                      have X := Blk.new v2 #[.int .i64 0, .int .i64 0, .int .i64 0, .int .i64 0, .int .i64 0, .int .i64 0, .int .i64 0, .int .i64 0, .int .i64 0, .int .i64 0, .int .i64 0, .int .i64 0, .int .i64 0, .int .i64 0, .int .i64 0, .int .i64 0, .int .i64 0, .int .i64 0, .int .i64 0, .int .i64 0, .int .i64 0, .int .i64 0, .int .i64 0, .int .i64 0, .int .i64 0] 74
                      replace X : Has 74 (v2.alloc (.cells #[.int .i64 0, .int .i64 0, .int .i64 0, .int .i64 0, .int .i64 0, .int .i64 0, .int .i64 0, .int .i64 0, .int .i64 0, .int .i64 0, .int .i64 0, .int .i64 0, .int .i64 0, .int .i64 0, .int .i64 0, .int .i64 0, .int .i64 0, .int .i64 0, .int .i64 0, .int .i64 0, .int .i64 0, .int .i64 0, .int .i64 0, .int .i64 0, .int .i64 0] 74)) v2.heap.size T0 := X
                      clear hH
                      have hH := hH2
                      clear hH2
                      generalize hW13 : v2.alloc _ = V13 at *
                      clear hW13
                      refine wpAnyH_ready (rs := [11]) (by kernel_rfl) (by simp) ?_
                      refine AllReadyH.cons rfl (fun K hK => ?_) AllReadyH.nil
                      rw [if_pos (by rfl)]
                      have n1 := zed_ne (by decide) ⟨_, X⟩ ⟨_, _, _, Y⟩
                      have n3 := zed_ne (by decide) ⟨_, hH.1⟩ ⟨_, _, _, Y⟩
                      refine wp_store_tab rfl rfl rfl X (fun v8 X8 g8 => ?_)
                      refine hK.out _ _ ⟨hH.1.chg g8 (by simp; omega), hH.2.chg g8 (by simp; omega)⟩ (fun hH8 => ?_)
                      clear hK K
                      walk_nrm
                      replace Y := Y.chg g8 (by simpa using n1.symm)
                      replace G := G.trans g8 (by simp; omega)
                      clear hH X g8
                      refine wpAnyH_ready (rs := [12]) (by kernel_rfl) (by simp) ?_
                      refine AllReadyH.cons rfl (fun K hK => ?_) AllReadyH.nil
                      rw [if_pos (by rfl)]
                      refine wp_store_ans (u := (doT (behindT rs) (atO x.o now)).2) rfl rfl rfl Y (fun v9 Y9 g9 => ?_)
                      refine hK.out _ _ ⟨hH8.1.chg g9 (by simp; omega), hH8.2.chg g9 (by simp; omega)⟩ (fun hH9 => ?_)
                      clear hK K
                      walk_nrm
                      have G9 := G.trans g9 (by simp; omega)
                      have B9 := hH9.1
                      clear hH9 hH8 g9 X8 Y G
                      refine wpAnyH_done (by kernel_rfl) ?_ _
                      refine NoPanic.normal ?_
                      generalize v2.heap.size = p5 at *
                      generalize V0.heap.size = p6 at *
                      have A9 := (unhide HBA8).chg G9 (by simp)
                      obtain ⟨a0, a1, a2, -, -, -⟩ := A9.three
                      rw [(unhide HDO).1] at Y9
                      obtain ⟨q0, q1, q2, -, -, -⟩ := Y9.three
                      have la9 := A9.lt
                      have lq9 := Y9.lt
                      clear A9
                      go_wp2
                      go_roundw
                      case rel => exact (unhide HNX) _ (behindT rs) (G9.wide (by simp)) (B9) (unhide HSAME)
                      case measure => go_light; simp [intOf]; omega
                    exact AllReadyH.nil
                  refine AllReadyH.cons rfl (fun K hK => ?_) ?_
                  · rw [if_pos (by rfl)]
                    have zb9 := hH.1.lt
                    have zx9 := hH.2.lt
                    have zg9 := G.size
                    go_simp
                    refine hK.out _ _ ⟨hH.1.alloc _, hH.2.alloc _⟩ (fun hH2 => ?_)
                    clear hK K
                    walk_nrm
                    replace G := G.alloc (.cells #[.int .i64 0, .int .i64 0, .int .i64 0, .int .i64 0, .int .i64 0, .int .i64 0, .int .i64 0, .int .i64 0, .int .i64 0, .int .i64 0, .int .i64 0, .int .i64 0, .int .i64 0, .int .i64 0, .int .i64 0, .int .i64 0, .int .i64 0, .int .i64 0, .int .i64 0, .int .i64 0, .int .i64 0, .int .i64 0, .int .i64 0, .int .i64 0, .int .i64 0] 74)
                    replace Y := Y.alloc (.cells #[.int .i64 0, .int .i64 0, .int .i64 0, .int .i64 0, .int .i64 0, .int .i64 0, .int .i64 0, .int .i64 0, .int .i64 0, .int .i64 0, .int .i64 0, .int .i64 0, .int .i64 0, .int .i64 0, .int .i64 0, .int .i64 0, .int .i64 0, .int .i64 0, .int .i64 0, .int .i64 0, .int .i64 0, .int .i64 0, .int .i64 0, .int .i64 0, .int .i64 0] 74)
                    have X := Blk.new V11 #[.int .i64 0, .int .i64 0, .int .i64 0, .int .i64 0, .int .i64 0, .int .i64 0, .int .i64 0, .int .i64 0, .int .i64 0, .int .i64 0, .int .i64 0, .int .i64 0, .int .i64 0, .int .i64 0, .int .i64 0, .int .i64 0, .int .i64 0, .int .i64 0, .int .i64 0, .int .i64 0, .int .i64 0, .int .i64 0, .int .i64 0, .int .i64 0, .int .i64 0] 74
                    replace X : Has 74 (V11.alloc (.cells #[.int .i64 0, .int .i64 0, .int .i64 0, .int .i64 0, .int .i64 0, .int .i64 0, .int .i64 0, .int .i64 0, .int .i64 0, .int .i64 0, .int .i64 0, .int .i64 0, .int .i64 0, .int .i64 0, .int .i64 0, .int .i64 0, .int .i64 0, .int .i64 0, .int .i64 0, .int .i64 0, .int .i64 0, .int .i64 0, .int .i64 0, .int .i64 0, .int .i64 0] 74)) V11.heap.size T0 := X
                    clear hH
                    have hH := hH2
                    clear hH2
                    generalize hW14 : V11.alloc _ = V14 at *
                    clear hW14
                    refine wpAnyH_ready (rs := [5]) (by kernel_rfl) (by simp) ?_
                    refine AllReadyH.cons rfl (fun K hK => ?_) ?_
                    · rw [if_pos (by rfl)]
                      go_simp
                      refine (did_any (behindT rs) (atO x.o now) _ (unhide HIV)).mono ?_
                      rintro e v2 ⟨rfl, g2⟩
                      refine hK.out _ _ ⟨hH.1.chg g2 (by simp), hH.2.chg g2 (by simp)⟩ (fun hH2 => ?_)
                      clear hK K
                      walk_nrm
                      replace G := G.trans g2 (by simp)
                      replace X := X.chg g2 (by simp)
                      replace Y := Y.chg g2 (by simp)
                      clear hH g2
                      have hH := hH2
                      clear hH2
                      refine wpAnyH_take (i := 6) (v := ?_) rfl (by kernel_rfl) (by kernel_rfl) (by kernel_rfl) (fun _ _ _ h => h) (Or.inl ⟨by rfl, ?hw13⟩) hH ?rw13
                      case hw13 => (intro W' hSw; go_simp; try with_reducible rfl)
                      walk_nrm
                      refine wpAnyH_take (i := 7) (v := ?_) rfl (by kernel_rfl) (by kernel_rfl) (by kernel_rfl) (fun _ _ _ h => h) (Or.inl ⟨by rfl, ?hw14⟩) hH ?rw14
                      case hw14 => (intro W' hSw; go_simp; try with_reducible rfl)
                      walk_nrm
                      refine wpAnyH_take (i := 8) (v := ?_) rfl (by kernel_rfl) (by kernel_rfl) (by kernel_rfl) (fun _ _ _ h => h) (Or.inl ⟨by rfl, ?hw15⟩) hH ?rw15
                      case hw15 => (intro W' hSw; go_simp; try with_reducible rfl)
                      walk_nrm
                      refine wpAnyH_ready (rs := [11]) (by kernel_rfl) (by simp) ?_
                      refine AllReadyH.cons rfl (fun K hK => ?_) AllReadyH.nil
                      rw [if_pos (by rfl)]
                      have n1 := zed_ne (by decide) ⟨_, X⟩ ⟨_, _, _, Y⟩
                      have n3 := zed_ne (by decide) ⟨_, hH.1⟩ ⟨_, _, _, Y⟩
                      refine wp_store_tab rfl rfl rfl X (fun v8 X8 g8 => ?_)
                      refine hK.out _ _ ⟨hH.1.chg g8 (by simp; omega), hH.2.chg g8 (by simp; omega)⟩ (fun hH8 => ?_)
                      clear hK K
                      walk_nrm
                      replace Y := Y.chg g8 (by simpa using n1.symm)
                      replace G := G.trans g8 (by simp; omega)
                      clear hH X g8
                      refine wpAnyH_ready (rs := [12]) (by kernel_rfl) (by simp) ?_
                      refine AllReadyH.cons rfl (fun K hK => ?_) AllReadyH.nil
                      rw [if_pos (by rfl)]
                      refine wp_store_ans (u := (doT (behindT rs) (atO x.o now)).2) rfl rfl rfl Y (fun v9 Y9 g9 => ?_)
                      refine hK.out _ _ ⟨hH8.1.chg g9 (by simp; omega), hH8.2.chg g9 (by simp; omega)⟩ (fun hH9 => ?_)
                      clear hK K
                      walk_nrm
                      have G9 := G.trans g9 (by simp; omega)
                      have B9 := hH9.1
                      clear hH9 hH8 g9 X8 Y G
                      refine wpAnyH_done (by kernel_rfl) ?_ _
                      refine NoPanic.normal ?_
                      generalize V11.heap.size = p5 at *
                      generalize V0.heap.size = p6 at *
                      have A9 := (unhide HBA8).chg G9 (by simp)
                      obtain ⟨a0, a1, a2, -, -, -⟩ := A9.three
                      rw [(unhide HDO).1] at Y9
                      obtain ⟨q0, q1, q2, -, -, -⟩ := Y9.three
                      have la9 := A9.lt
                      have lq9 := Y9.lt
                      clear A9
                      go_wp2
                      go_roundw
                      case rel => exact (unhide HNX) _ (behindT rs) (G9.wide (by simp)) (B9) (unhide HSAME)
                      case measure => go_light; simp [intOf]; omega
                    exact AllReadyH.nil
                  exact AllReadyH.nil
                exact AllReadyH.nil
            · go_wp2
              go_roundw
              case rel => exact (unhide HNX) _ (behindT rs) (Chg.refl _ _) (unhide HB8) (unhide HSAME)
              case measure => go_light; simp [intOf]; omega
      have b2 : (x.k == 2) = false := by simpa using k2
      by_cases k3 : x.k = 3
      · have b3 : (x.k == 3) = true := by simp [k3]
        have hnw : now = s.now := unhide HNW (by omega)
        by_cases hm : rs' = rs
        · have HSAME : Hid (behindT rs = behindT rs') := hide (by rw [hm])
          have d1' : ((rs'.length : Int) == (rs.length : Int) + 1) = false := by rw [hm]; simp; omega
          have d2' : decide ((rs.length : Int) + 1 < (rs'.length : Int)) = false := by rw [hm]; simp; omega
          clear hm hnw k3 k2
          go_wp2
          go_roundw
          case rel => exact (unhide HNX) _ (behindT rs) (Chg.refl _ _) (unhide HB8) (unhide HSAME)
          case measure => go_light; simp [intOf]; omega
        · have DO : (doT (behindT rs) (atO x.o now)).2.code = 0 ∧ behindT rs' = (doT (behindT rs) (atO x.o now)).1 ∧ rs'.length = rs.length + 1 ∧ a.code = 0 := by
            rw [hnw]
            rcases unhide HTL with ⟨e, _⟩ | ⟨_, e1, e, e2⟩ | ⟨e, _⟩
            · omega
            · rw [e, behindT_snoc]; exact ⟨e2, rfl, by simp, e1⟩
            · exact absurd e hm
          have HSAME : Hid ((doT (behindT rs) (atO x.o now)).1 = behindT rs') := hide DO.2.1.symm
          have HDO := hide DO
          have d1' : ((rs'.length : Int) == (rs.length : Int) + 1) = true := by rw [DO.2.2.1]; simp
          have d2' : decide ((rs.length : Int) + 1 < (rs'.length : Int)) = false := by rw [DO.2.2.1]; simp
          have bc : (a.code != 0) = false := by simp [DO.2.2.2]
          have hfld : ∀ (W : World) (a b c : Int), (Instr.field 56 (.agg #[.int .i64 a, .int .i64 b, .int .i64 c]) 0).run Try.prog W = .ok (.int .i64 a) W := fun W a b c => by kernel_rfl
          have bd : ((doT (behindT rs) (atO x.o now)).2.code != 0) = false := by simp [DO.1]
          clear DO hm hnw k3 k2
          go_wp2_with fail
          generalize hW8 : v7.setCell ⟨wr.heap.size, 4, none⟩ (.int .i64 now) = w8 at *
          clear hW8 x0 x1 x2 x3 x5 x6 x7 x8 y0 y1 y2 cx4 fx7 lx7 la7 lb7
          refine (bdo_all w2.heap.size (atO x.o now) (behindT rs) w8 (unhide HB8) (unhide HIV)).mono ?_
          rintro e w9 ⟨rfl, B9, g9⟩
          go_wp2
          go_roundw
          case rel => exact (unhide HNX) _ _ (g9) (B9) (unhide HSAME)
          case measure => go_light; simp [intOf]; omega
      · have b3 : (x.k == 3) = false := by simpa using k3
        have ER : rs' = rs := by
          rcases unhide HTL with ⟨e, _⟩ | ⟨e, _⟩ | ⟨e, _⟩
          · omega
          · omega
          · exact e
        have HSAME : Hid (behindT rs = behindT rs') := hide (by rw [ER])
        have dlen : ((rs'.length : Int) != (rs.length : Int)) = false := by simp [ER]
        clear ER k2 k3
        go_wp2
        go_roundw
        case rel => exact (unhide HNX) _ (behindT rs) (Chg.refl _ _) (unhide HB8) (unhide HSAME)
        case measure => go_light; simp [intOf]; omega
    · have hki : ¬ (k : Int) < (len : Int) := by omega
      go_wp2
      go_ret
      exact ⟨rfl, G1.trans C.ch (by simp)⟩
end Go.Proofs.Ytgcikokfgcpkfab

namespace Go.Proofs.Ytgcikokfgcpkfab
open Go.ChangeShapes Go.WideShapes Go.ChangeAt Go.RowKit

set_option maxRecDepth 100000 in
theorem gserial_lifted (os : Os) (started : os.Started) (H : Type) (enc : TypeId × Value → H) :
    ReturnsInHanded {} Try.checked os 11 .any (Rows.guildSerialSpec.pre6 enc Try.prog Try.f11 Rows.guildSerialRow.domain false) (Rows.guildSerialSpec.post enc Try.prog Try.f11 false true false false) := by
  refine returnsInHanded_of_change (C := Try.checked) ownK started (by kernel_rfl) Try.func11
    (ChangeSpec.witness6 (enc := enc) (C := Try.checked) false ⟨#[], #[.slice none 0 0], []⟩ 8 (by kernel_rfl) (by kernel_rfl) (by kernel_rfl) (by kernel_rfl)) ?_
  intro W base args ds gs before hval0 hW hcnd _
  have hval : ∀ (j : Nat) t v, Try.f11.params[j]? = some t → args[j]? = some v → Value.okWide Try.prog W .any base t v := hval0
  have hW' := hW
  obtain ⟨p, q, hA0, hV, rfl, hfz, hnd⟩ := hW
  have hA : DataW.TrodAll enc Try.prog W 0 (fun _ => true) true Try.f11.params.toList args.toList ds p := hA0
  rw [Try.params11] at hA hval
  obtain ⟨v0, vs0, d0, ds0, p0, q0, hargs, rfl, rfl, h0, r0⟩ := trodAll_cons hA
  obtain ⟨rfl, rfl, rfl⟩ := trodAll_nil r0
  obtain rfl : args = #[v0] := by cases args; simp_all
  obtain ⟨rfl, rfl⟩ := trodVars_none hV
  obtain ⟨a0, len0, cap0, rfl⟩ := okWide_slice Try.underlying78 (hval 0 78 v0 rfl rfl)
  have k0 := h0
  have lt0 : ∀ x ∈ p0, x.block < W.heap.size := by obtain ⟨m, hm⟩ := k0; exact DataW.trod_lt m _ _ _ hm
  obtain ⟨z0, w0⟩ : ∃ fs, Sps W a0 len0 fs := by
    obtain ⟨fuel, hf⟩ := h0
    exact sps_of_trod (by simpa [Value.cells] using hf)
  clear hA0 hval0
  refine (gserial_any a0 len0 cap0 z0 W w0).mono fun e W' ⟨he, hch⟩ => ?_
  have bel := hch.below
  subst he
  exact ⟨_, rfl, _, _, _, [], _, [], hW', trodAll_mk1 (shut_bool Try.underlying4 _), (trodAll_cons_mk (Below.trod laidOutK (by kernel_rfl) (of_decide_eq_true (by kernel_rfl)) k0 bel lt0) trodAll_mk0), rfl, bel.frame _, fun h => by cases h⟩

theorem gserial_holds : Rows.GuildSerialSaid :=
  OpenClaim.holds_of_wide 11 Try.f11 rfl rfl rfl rfl rfl rfl rfl ⟨rfl, rfl, rfl, rfl, rfl⟩ rfl rfl rfl rfl rfl (by kernel_rfl) Try.func11 (by kernel_rfl)
    (of_decide_eq_true (by kernel_rfl)) (by unfold Func.isWrapper; first | (rw [if_pos (by decide +kernel)]; kernel_rfl) | (rw [if_neg (by decide +kernel)]; exact ⟨rfl, rfl⟩))
    (fun os started H enc _ => gserial_lifted os started H enc)

end Go.Proofs.Ytgcikokfgcpkfab

