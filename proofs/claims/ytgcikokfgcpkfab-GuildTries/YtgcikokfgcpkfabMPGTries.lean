/- For all steps the law GuildTries returns true, and leaves them as they were; no condition. -/
import Derived.Test.YtgcikokfgcpkfabMGT
import Derived.Test.YtgcikokfgcpkfabMGFrame
namespace Go.Proofs.Ytgcikokfgcpkfab
open Go.RowKit

set_option maxRecDepth 100000 in
set_option maxHeartbeats 8000000 in
theorem gtries_any (a : Option Addr) (len cap : Nat) (fs : Nat → Sp) (W : World) (h : Sps W a len fs) :
    Calls Try.prog 13 #[.slice a len cap] W fun e w' => e = .returned (.bool true) ∧ Chg [] W w' := by
  have HH := hide h
  clear h
  by_cases hbig : 300 < len
  · have d1 : decide ((300 : Int) < (len : Int)) = true := by simp; omega
    go_enter Try.func13, Try.ntmps13
    go_wp2_with (go_at_call 40; refine (gbegun_any _).mono ?_; rintro e w1 ⟨rfl, G1⟩)
    go_ret
    exact ⟨rfl, G1⟩
  have d1 : decide ((300 : Int) < (len : Int)) = false := by simp; omega
  go_enter Try.func13, Try.ntmps13
  go_wp2_with (first
    | (go_at_call 40; refine (gbegun_any _).mono ?_; rintro e w1 ⟨rfl, G1⟩)
    | (go_at_call 41; refine (gnew_any _).mono ?_; rintro e w2 ⟨m0, rfl, C0⟩))
  obtain ⟨gb, hgb0⟩ : ∃ gb, m0.gb = gb := ⟨_, rfl⟩
  rw [hgb0]
  have k0 : Chg [] w2 (((w2.alloc (.cells #[.int .i64 0, .int .i64 0, .int .i64 0, .int .i64 0, .int .i64 0, .int .i64 0] 100)).alloc (.cells #[.int .i64 0, .int .i64 0, .int .i64 0, .int .i64 0, .int .i64 0, .int .i64 0] 100)).alloc (.cells #[.int .i64 0, .int .i64 0, .int .i64 0, .int .i64 0, .int .i64 0, .int .i64 0] 100)) := (((Chg.refl [] w2).alloc _).alloc _).alloc _
  have za : (w2.alloc (.cells #[.int .i64 0, .int .i64 0, .int .i64 0, .int .i64 0, .int .i64 0, .int .i64 0] 100)).heap.size = w2.heap.size + 1 := by simp
  have C1 := C0.fresh k0
  have z12 : w1.heap.size ≤ w2.heap.size := C0.ch.size
  clear C0
  have C0 := C1
  clear C1
  have BT : IntsG 100 (((w2.alloc (.cells #[.int .i64 0, .int .i64 0, .int .i64 0, .int .i64 0, .int .i64 0, .int .i64 0] 100)).alloc (.cells #[.int .i64 0, .int .i64 0, .int .i64 0, .int .i64 0, .int .i64 0, .int .i64 0] 100)).alloc (.cells #[.int .i64 0, .int .i64 0, .int .i64 0, .int .i64 0, .int .i64 0, .int .i64 0] 100)) w2.heap.size (fun _ => 0) := ((Blk.new w2 _ _).alloc _).alloc _
  have BW : IntsG 100 (((w2.alloc (.cells #[.int .i64 0, .int .i64 0, .int .i64 0, .int .i64 0, .int .i64 0, .int .i64 0] 100)).alloc (.cells #[.int .i64 0, .int .i64 0, .int .i64 0, .int .i64 0, .int .i64 0, .int .i64 0] 100)).alloc (.cells #[.int .i64 0, .int .i64 0, .int .i64 0, .int .i64 0, .int .i64 0, .int .i64 0] 100)) (w2.heap.size + 1) (fun _ => 0) := (Blk.new1 w2 _ _ _).alloc _
  have BD : IntsG 100 (((w2.alloc (.cells #[.int .i64 0, .int .i64 0, .int .i64 0, .int .i64 0, .int .i64 0, .int .i64 0] 100)).alloc (.cells #[.int .i64 0, .int .i64 0, .int .i64 0, .int .i64 0, .int .i64 0, .int .i64 0] 100)).alloc (.cells #[.int .i64 0, .int .i64 0, .int .i64 0, .int .i64 0, .int .i64 0, .int .i64 0] 100)) (w2.heap.size + 2) (fun _ => 0) := by have := Blk.new1 (w2.alloc (.cells #[.int .i64 0, .int .i64 0, .int .i64 0, .int .i64 0, .int .i64 0, .int .i64 0] 100)) (.cells #[.int .i64 0, .int .i64 0, .int .i64 0, .int .i64 0, .int .i64 0, .int .i64 0] 100) #[.int .i64 0, .int .i64 0, .int .i64 0, .int .i64 0, .int .i64 0, .int .i64 0] 100; rw [za] at this; exact this
  have HBT := hide BT
  have HBW := hide BW
  have HBD := hide BD
  clear BT BW BD k0 za
  have HC0 := hide C0
  clear C0
  go_loopw [7] (fun i wr => ∃ (k : Nat) (m : Gm) (s : Gd) (tr wk dn : Nat → Int), k ≤ len ∧ i = .int .i64 k ∧ Gld w1 wr m s ∧ m.gb = gb ∧ IntsG 100 wr w2.heap.size tr ∧ IntsG 100 wr (w2.heap.size + 1) wk ∧ IntsG 100 wr (w2.heap.size + 2) dn ∧ Hid (m.own w2.heap.size = 100 ∧ m.own (w2.heap.size + 1) = 100 ∧ m.own (w2.heap.size + 2) = 100) ∧ Hid (∃ rs t, PlG s rs t ∧ Tri (behindT rs) tr wk dn)) (fun i _ => len - (intOf i).toNat)
  case atStart =>
    exact ⟨0, _, G0, _, _, _, by omega, rfl, unhide HC0, hgb0, unhide HBT, unhide HBW, unhide HBD, hide ⟨grw_at m0 _ (Nat.le_refl _), grw_at m0 _ (by omega), grw_at m0 _ (by omega)⟩, hide ⟨[], [], plG_0, tri_0⟩⟩
  case round =>
    obtain ⟨k, m, s, tr, wk, dn, hkl, rfl, C, hgb, BT, BW, BD, HO, HTR⟩ := hrel
    clear HC0 HBT HBW HBD hgb0
    by_cases hlt : k < len
    · have hki : (k : Int) < (len : Int) := by omega
      have hk0 : (0 : Int) ≤ (k : Int) := by omega
      rcases unhide HH with h0 | ⟨bl, off, rfl, hbl, hO⟩
      · omega
      have GW := G1.trans C.ch (by simp)
      obtain ⟨p0, p1, p2, p3, p4, p5, p6, p7, p8⟩ := (hO k hlt).chg GW hbl
      have lbl := Nat.lt_of_lt_of_le hbl GW.size
      clear hO
      have HC := hide C
      have zw := C.ch.size
      have lt0 := BT.lt
      have lw0 := BW.lt
      have ld0 := BD.lt
      have HBT := hide BT
      have HBW := hide BW
      have HBD := hide BD
      clear C BT BW BD
      go_wp2_with fail
      have kx : Chg [] wr (wr.alloc (.cells #[.int .i64 (fs k).k, .int .i64 (fs k).n, .int .i64 (fs k).keep, .int .i64 (fs k).o.k, .int .i64 (fs k).o.now, .int .i64 (fs k).o.jb, .int .i64 (fs k).o.tr, .int .i64 (fs k).o.wk, .int .i64 (fs k).o.tm] 90)) := (Chg.refl [] wr).alloc _
      have C1 := (unhide HC).fresh kx
      have BX := Blk.new wr #[.int .i64 (fs k).k, .int .i64 (fs k).n, .int .i64 (fs k).keep, .int .i64 (fs k).o.k, .int .i64 (fs k).o.now, .int .i64 (fs k).o.jb, .int .i64 (fs k).o.tr, .int .i64 (fs k).o.wk, .int .i64 (fs k).o.tm] 90
      have BT1 := (unhide HBT).alloc (.cells #[.int .i64 (fs k).k, .int .i64 (fs k).n, .int .i64 (fs k).keep, .int .i64 (fs k).o.k, .int .i64 (fs k).o.now, .int .i64 (fs k).o.jb, .int .i64 (fs k).o.tr, .int .i64 (fs k).o.wk, .int .i64 (fs k).o.tm] 90)
      have BW1 := (unhide HBW).alloc (.cells #[.int .i64 (fs k).k, .int .i64 (fs k).n, .int .i64 (fs k).keep, .int .i64 (fs k).o.k, .int .i64 (fs k).o.now, .int .i64 (fs k).o.jb, .int .i64 (fs k).o.tr, .int .i64 (fs k).o.wk, .int .i64 (fs k).o.tm] 90)
      have BD1 := (unhide HBD).alloc (.cells #[.int .i64 (fs k).k, .int .i64 (fs k).n, .int .i64 (fs k).keep, .int .i64 (fs k).o.k, .int .i64 (fs k).o.now, .int .i64 (fs k).o.jb, .int .i64 (fs k).o.tr, .int .i64 (fs k).o.wk, .int .i64 (fs k).o.tm] 90)
      have oT := grw_as m wr.heap.size lt0 (unhide HO).1
      have oW := grw_as m wr.heap.size lw0 (unhide HO).2.1
      have oD := grw_as m wr.heap.size ld0 (unhide HO).2.2
      have oX := grw_at m wr.heap.size (Nat.le_refl wr.heap.size)
      refine (gstep_at w1 _ s (fs k) gb _ C1 hgb).mono ?_
      rintro e w4 ⟨rfl, m4, X4⟩
      have BT4 : IntsG 100 w4 w2.heap.size tr := X4.blk BT1 oT
      have BW4 : IntsG 100 w4 (w2.heap.size + 1) wk := X4.blk BW1 oW
      have BD4 : IntsG 100 w4 (w2.heap.size + 2) dn := X4.blk BD1 oD
      have BX4 := X4.blk BX oX
      have oT4 := X4.ow _ BT1.lt oT
      have oW4 := X4.ow _ BW1.lt oW
      have oD4 := X4.ow _ BD1.lt oD
      have oX4 := X4.ow _ BX.lt oX
      have C4 := X4.g
      have hgb4 : m4.gb = gb := X4.gb.trans hgb
      have z4 := X4.size
      have zx : (wr.alloc (.cells #[.int .i64 (fs k).k, .int .i64 (fs k).n, .int .i64 (fs k).keep, .int .i64 (fs k).o.k, .int .i64 (fs k).o.now, .int .i64 (fs k).o.jb, .int .i64 (fs k).o.tr, .int .i64 (fs k).o.wk, .int .i64 (fs k).o.tm] 90)).heap.size = wr.heap.size + 1 := by simp
      obtain ⟨rs, t, PL, TR⟩ := unhide HTR
      obtain ⟨rs', t', PL', TL⟩ := PL.step (fs k)
      have HPL := hide PL'
      have HTL := hide TL
      have HTT := hide TR
      have HIV := hide (behindT_inv rs)
      obtain ⟨a, ea⟩ : ∃ a, a = (stepG s (fs k)).2 := ⟨_, rfl⟩
      rw [← ea] at HTL ⊢
      obtain ⟨s', es'⟩ : ∃ s', s' = (stepG s (fs k)).1 := ⟨_, rfl⟩
      rw [← es'] at C4 HPL HTL
      clear ea es' PL PL' TL TR X4 C1 BX BT1 BW1 BD1 oT oW oD oX HTR HC HBT HBW HBD HO kx
      obtain ⟨x0, x1, x2, x3, x4, x5, x6, x7, x8⟩ : w4.cell? ⟨wr.heap.size, 0, none⟩ = some (.int .i64 (fs k).k) ∧ w4.cell? ⟨wr.heap.size, 1, none⟩ = some (.int .i64 (fs k).n) ∧ w4.cell? ⟨wr.heap.size, 2, none⟩ = some (.int .i64 (fs k).keep) ∧ w4.cell? ⟨wr.heap.size, 3, none⟩ = some (.int .i64 (fs k).o.k) ∧ w4.cell? ⟨wr.heap.size, 4, none⟩ = some (.int .i64 (fs k).o.now) ∧ w4.cell? ⟨wr.heap.size, 5, none⟩ = some (.int .i64 (fs k).o.jb) ∧ w4.cell? ⟨wr.heap.size, 6, none⟩ = some (.int .i64 (fs k).o.tr) ∧ w4.cell? ⟨wr.heap.size, 7, none⟩ = some (.int .i64 (fs k).o.wk) ∧ w4.cell? ⟨wr.heap.size, 8, none⟩ = some (.int .i64 (fs k).o.tm) := ⟨BX4.cell 0, BX4.cell 1, BX4.cell 2, BX4.cell 3, BX4.cell 4, BX4.cell 5, BX4.cell 6, BX4.cell 7, BX4.cell 8⟩
      have lx := BX4.lt
      clear BX4
      have KEEP : ∃ m5, Gld w1 (w4.alloc (.cells #[.int .i64 a.code, .int .i64 a.jb, .int .i64 a.tr] 56)) m5 s' ∧ m5.gb = gb ∧ Hid (m5.own w2.heap.size = 100 ∧ m5.own (w2.heap.size + 1) = 100 ∧ m5.own (w2.heap.size + 2) = 100) :=
        ⟨_, C4.fresh ((Chg.refl [] w4).alloc _), hgb4, hide ⟨grw_as m4 _ BT4.lt oT4, grw_as m4 _ BW4.lt oW4, grw_as m4 _ BD4.lt oD4⟩⟩
      obtain ⟨m5, C5, hgb5, HO5⟩ := KEEP
      have HC5 := hide C5
      have BT5 : IntsG 100 _ w2.heap.size tr := BT4.alloc (.cells #[.int .i64 a.code, .int .i64 a.jb, .int .i64 a.tr] 56)
      have BW5 : IntsG 100 _ (w2.heap.size + 1) wk := BW4.alloc (.cells #[.int .i64 a.code, .int .i64 a.jb, .int .i64 a.tr] 56)
      have BD5 : IntsG 100 _ (w2.heap.size + 2) dn := BD4.alloc (.cells #[.int .i64 a.code, .int .i64 a.jb, .int .i64 a.tr] 56)
      have zT := BT4.lt
      have zW := BW4.lt
      have zD := BD4.lt
      have NEXT : ∀ (W : World) (tr' wk' dn' : Nat → Int), Chg [w2.heap.size, w2.heap.size + 1, w2.heap.size + 2] (w4.alloc (.cells #[.int .i64 a.code, .int .i64 a.jb, .int .i64 a.tr] 56)) W → IntsG 100 W w2.heap.size tr' → IntsG 100 W (w2.heap.size + 1) wk' → IntsG 100 W (w2.heap.size + 2) dn' → Tri (behindT rs') tr' wk' dn' → ∃ (k' : Nat) (m : Gm) (s : Gd) (tr wk dn : Nat → Int), k' ≤ len ∧ Value.int .i64 ((k : Int) + 1) = .int .i64 k' ∧ Gld w1 W m s ∧ m.gb = gb ∧ IntsG 100 W w2.heap.size tr ∧ IntsG 100 W (w2.heap.size + 1) wk ∧ IntsG 100 W (w2.heap.size + 2) dn ∧ Hid (m.own w2.heap.size = 100 ∧ m.own (w2.heap.size + 1) = 100 ∧ m.own (w2.heap.size + 2) = 100) ∧ Hid (∃ rs t, PlG s rs t ∧ Tri (behindT rs) tr wk dn) := fun W tr' wk' dn' ch bt bw bd hT =>
        ⟨k + 1, m5, s', tr', wk', dn', by omega, by simp, (unhide HC5).keep ch (by intro x hx; obtain ⟨q1, q2, q3⟩ := unhide HO5; simp at hx; rcases hx with rfl | rfl | rfl; exact ⟨q1, by omega⟩; exact ⟨q2, by omega⟩; exact ⟨q3, by omega⟩), hgb5, bt, bw, bd, HO5, hide ⟨rs', t', unhide HPL, hT⟩⟩
      have HNX := hide NEXT
      have HC4 := hide C4
      have HO4 := hide (show m4.own w2.heap.size = 100 ∧ m4.own (w2.heap.size + 1) = 100 ∧ m4.own (w2.heap.size + 2) = 100 from ⟨oT4, oW4, oD4⟩)
      clear NEXT C5 C4 oT4 oW4 oD4 oX4
      have SAME : Tri (behindT rs') tr wk dn := by
        rcases unhide HTL with ⟨_, _, e, _⟩ | ⟨_, _, e, _⟩ | ⟨e, _⟩
        · rw [e, behindT_snoc]; exact tri_keep (unhide HIV) (unhide HTT) _
        · rw [e, behindT_snoc]; exact tri_keep (unhide HIV) (unhide HTT) _
        · rw [e]; exact unhide HTT
      have HSM := hide SAME
      clear SAME
      have HBT5 := hide BT5
      have HBW5 := hide BW5
      have HBD5 := hide BD5
      clear BT5 BW5 BD5
      unfold ansV
      by_cases hk2 : ¬ (fs k).k = 2
      · have b0 : ((fs k).k != 2) = true := by simpa using hk2
        clear hk2
        go_wp2
        go_roundw
        case rel => exact (unhide HNX) _ tr wk dn (Chg.refl _ _) (unhide HBT5) (unhide HBW5) (unhide HBD5) (unhide HSM)
        case measure => go_light; simp [intOf]; omega
      replace hk2 : (fs k).k = 2 := Classical.not_not.1 hk2
      have b0 : ((fs k).k != 2) = false := by simp [hk2]
      by_cases hc0 : ¬ a.code = 0
      · have b1 : (a.code != 0) = true := by simpa using hc0
        clear hk2 hc0
        go_wp2
        go_roundw
        case rel => exact (unhide HNX) _ tr wk dn (Chg.refl _ _) (unhide HBT5) (unhide HBW5) (unhide HBD5) (unhide HSM)
        case measure => go_light; simp [intOf]; omega
      replace hc0 : a.code = 0 := Classical.not_not.1 hc0
      have DONE : (doT (behindT rs) (atO (fs k).o s.now)).2 = a ∧ behindT rs' = (doT (behindT rs) (atO (fs k).o s.now)).1 := by
        rcases unhide HTL with ⟨_, _, e, e2⟩ | ⟨e, _⟩ | ⟨_, e⟩
        · rw [e, behindT_snoc]; exact ⟨e2, rfl⟩
        · omega
        · exact absurd hc0 (e hk2).1
      have b1 : (a.code != 0) = false := by simp [hc0]
      have HDN := hide DONE
      clear DONE hk2
      by_cases ht : (fs k).o.k = 2
      · obtain ⟨n, y, hn, ey, q1, q2, q3, q4⟩ := tri_take (unhide HIV) (unhide HTT) (atO (fs k).o s.now) ht (by rw [(unhide HDN).1]; exact hc0)
        rw [(unhide HDN).1] at ey
        rw [← (unhide HDN).2] at q4
        have HQ4 := hide q4
        have b2 : ((fs k).o.k == 2) = true := by simp [ht]
        have hn' : (n : Int) < 6 := by omega
        have hn0 : (0 : Int) ≤ (n : Int) := by omega
        have d0 : decide ((n : Int) < 0) = false := by simp
        have d2 : decide ((6 : Int) ≤ (n : Int)) = false := by simp; omega
        have d3 : decide (y ≤ tr n) = false := by simp; omega
        have d4 : decide ((3 : Int) < y) = false := by simp; omega
        have d5 : decide ((0 : Int) < dn n) = false := by simp; omega
        have ct := BT4.c hn
        have cw := BW4.c hn
        have cd := BD4.c hn
        have ft := Blk.fz BT4 n
        have fw := Blk.fz BW4 n
        clear q4 ht hc0 q1 q2 q3
        subst ey
        go_wp2_with fail
        go_quiet (fail)
        go_wp2_with fail
        go_region
        go_wp2
        go_roundw
        case rel => exact (unhide HNX) _ (setG tr n y) (setG wk n (fs k).o.wk) dn ((((Chg.refl _ _).drewN _).setCell (by simp) _).setCell (by simp) _) (((unhide HBT5).drewN _).set hn _ |>.other (by simp) _) ((((unhide HBW5).drewN _).other (by simp) _).set hn _) ((((unhide HBD5).drewN _).other (by simp) _).other (by simp) _) (unhide HQ4)
        case measure => go_light; simp [intOf]; omega
      by_cases ho : ¬ (fs k).o.k = 4
      · have b2 : ((fs k).o.k == 2) = false := by simpa using ht
        have b3 : ((fs k).o.k == 4) = false := by simpa using ho
        clear ht ho hc0
        go_wp2
        go_roundw
        case rel => exact (unhide HNX) _ tr wk dn (Chg.refl _ _) (unhide HBT5) (unhide HBW5) (unhide HBD5) (unhide HSM)
        case measure => go_light; simp [intOf]; omega
      replace ho : (fs k).o.k = 4 := Classical.not_not.1 ho
      obtain ⟨n, hn, ej, q1, q2, q3, q4⟩ := tri_done (unhide HIV) (unhide HTT) (atO (fs k).o s.now) ho (by rw [(unhide HDN).1]; exact hc0)
      rw [← (unhide HDN).2] at q4
      have HQ4 := hide q4
      have b2 : ((fs k).o.k == 2) = false := by simpa using ht
      have b3 : ((fs k).o.k == 4) = true := by simp [ho]
      have hn' : (n : Int) < 6 := by omega
      have hn0 : (0 : Int) ≤ (n : Int) := by omega
      have d0 : decide ((n : Int) < 0) = false := by simp
      have d2 : decide ((6 : Int) ≤ (n : Int)) = false := by simp; omega
      have ct := BT4.c hn
      have cw := BW4.c hn
      have cd := BD4.c hn
      rw [q1] at cd
      have fd := Blk.fz BD4 n
      have ej' : (fs k).o.jb = n := ej
      rw [ej'] at x5
      have d3 : decide ((fs k).o.tr < tr n) = false := by have q2' : tr n ≤ (fs k).o.tr := q2; simp; omega
      have q3' : (fs k).o.tr = tr n → (fs k).o.wk = wk n := q3
      clear q4 ht ho hc0 q1 q2 q3 ej ej'
      by_cases e : (fs k).o.tr = tr n
      · have d4 : ((fs k).o.tr == tr n) = true := by simpa using e
        have d5 : ((fs k).o.wk != wk n) = false := by simpa using q3' e
        clear q3' e
        go_wp2_with fail
        go_quiet (fail)
        go_wp2
        go_roundw
        case rel =>
          obtain ⟨u1, u2, u3⟩ := unhide HO4
          have sz : (w4.setCell ⟨w2.heap.size + 2, n, none⟩ (.int .i64 1)).heap.size = w4.heap.size := by simp
          have Ca := (unhide HC4).keep ((Chg.refl [w2.heap.size + 2] w4).setCell (p := ⟨w2.heap.size + 2, n, none⟩) (by simp) (.int .i64 1)) (by intro x hx; simp at hx; subst hx; exact ⟨u3, by omega⟩)
          have Cb := Ca.fresh ((Chg.refl [] _).alloc (.cells #[.int .i64 a.code, .int .i64 a.jb, .int .i64 a.tr] 56))
          exact ⟨k + 1, _, s', tr, wk, setG dn n 1, by omega, by simp, Cb.keep ((Chg.refl [] _).drewN nq) (by simp), hgb4, ((BT4.other (p := ⟨w2.heap.size + 2, n, none⟩) (by simp) (.int .i64 1)).alloc _).drewN nq, ((BW4.other (p := ⟨w2.heap.size + 2, n, none⟩) (by simp) (.int .i64 1)).alloc _).drewN nq, ((BD4.set hn 1).alloc _).drewN nq, hide ⟨grw_as m4 _ (by rw [sz]; exact zT) u1, grw_as m4 _ (by rw [sz]; exact zW) u2, grw_as m4 _ (by rw [sz]; exact zD) u3⟩, hide ⟨rs', t', unhide HPL, unhide HQ4⟩⟩
        case measure => go_light; simp [intOf]; omega
      · have d4 : ((fs k).o.tr == tr n) = false := by simpa using e
        clear q3' e
        go_wp2_with fail
        go_quiet (fail)
        go_wp2
        go_roundw
        case rel =>
          obtain ⟨u1, u2, u3⟩ := unhide HO4
          have sz : (w4.setCell ⟨w2.heap.size + 2, n, none⟩ (.int .i64 1)).heap.size = w4.heap.size := by simp
          have Ca := (unhide HC4).keep ((Chg.refl [w2.heap.size + 2] w4).setCell (p := ⟨w2.heap.size + 2, n, none⟩) (by simp) (.int .i64 1)) (by intro x hx; simp at hx; subst hx; exact ⟨u3, by omega⟩)
          have Cb := Ca.fresh ((Chg.refl [] _).alloc (.cells #[.int .i64 a.code, .int .i64 a.jb, .int .i64 a.tr] 56))
          exact ⟨k + 1, _, s', tr, wk, setG dn n 1, by omega, by simp, Cb.keep ((Chg.refl [] _).drewN nq) (by simp), hgb4, ((BT4.other (p := ⟨w2.heap.size + 2, n, none⟩) (by simp) (.int .i64 1)).alloc _).drewN nq, ((BW4.other (p := ⟨w2.heap.size + 2, n, none⟩) (by simp) (.int .i64 1)).alloc _).drewN nq, ((BD4.set hn 1).alloc _).drewN nq, hide ⟨grw_as m4 _ (by rw [sz]; exact zT) u1, grw_as m4 _ (by rw [sz]; exact zW) u2, grw_as m4 _ (by rw [sz]; exact zD) u3⟩, hide ⟨rs', t', unhide HPL, unhide HQ4⟩⟩
        case measure => go_light; simp [intOf]; omega
    · have hki : ¬ (k : Int) < (len : Int) := by omega
      go_wp2
      go_ret
      exact ⟨rfl, G1.trans C.ch (by simp)⟩
end Go.Proofs.Ytgcikokfgcpkfab

namespace Go.Proofs.Ytgcikokfgcpkfab
open Go.ChangeShapes Go.WideShapes Go.ChangeAt Go.RowKit

set_option maxRecDepth 100000 in
theorem gtries_lifted (os : Os) (started : os.Started) (H : Type) (enc : TypeId × Value → H) :
    ReturnsInHanded {} Try.checked os 13 .any (Rows.guildTriesSpec.pre6 enc Try.prog Try.f13 Rows.guildTriesRow.domain false) (Rows.guildTriesSpec.post enc Try.prog Try.f13 false true false false) := by
  refine returnsInHanded_of_change (C := Try.checked) ownK started (by kernel_rfl) Try.func13
    (ChangeSpec.witness6 (enc := enc) (C := Try.checked) false ⟨#[], #[.slice none 0 0], []⟩ 8 (by kernel_rfl) (by kernel_rfl) (by kernel_rfl) (by kernel_rfl)) ?_
  intro W base args ds gs before hval0 hW hcnd _
  have hval : ∀ (j : Nat) t v, Try.f13.params[j]? = some t → args[j]? = some v → Value.okWide Try.prog W .any base t v := hval0
  have hW' := hW
  obtain ⟨p, q, hA0, hV, rfl, hfz, hnd⟩ := hW
  have hA : DataW.TrodAll enc Try.prog W 0 (fun _ => true) true Try.f13.params.toList args.toList ds p := hA0
  rw [Try.params13] at hA hval
  obtain ⟨v0, vs0, d0, ds0, p0, q0, hargs, rfl, rfl, h0, r0⟩ := trodAll_cons hA
  obtain ⟨rfl, rfl, rfl⟩ := trodAll_nil r0
  obtain rfl : args = #[v0] := by cases args; simp_all
  obtain ⟨rfl, rfl⟩ := trodVars_none hV
  obtain ⟨a0, len0, cap0, rfl⟩ := okWide_slice Try.underlying78 (hval 0 78 v0 rfl rfl)
  have k0 := h0
  have lt0 : ∀ x ∈ p0, x.block < W.heap.size := by obtain ⟨m, hm⟩ := k0; exact DataW.trod_lt m _ _ _ hm
  obtain ⟨z0, w0⟩ : ∃ fs, Sps W a0 len0 fs := by
    obtain ⟨fuel, hf⟩ := h0
    exact sps_of_trod (by simpa [Value.cells] using hf)
  clear hA0 hval0
  refine (gtries_any a0 len0 cap0 z0 W w0).mono fun e W' ⟨he, hch⟩ => ?_
  have bel := hch.below
  subst he
  exact ⟨_, rfl, _, _, _, [], _, [], hW', trodAll_mk1 (shut_bool Try.underlying4 _), (trodAll_cons_mk (Below.trod laidOutK (by kernel_rfl) (of_decide_eq_true (by kernel_rfl)) k0 bel lt0) trodAll_mk0), rfl, bel.frame _, fun h => by cases h⟩

theorem gtries_holds : Rows.GuildTriesSaid :=
  OpenClaim.holds_of_wide 13 Try.f13 rfl rfl rfl rfl rfl rfl rfl ⟨rfl, rfl, rfl, rfl, rfl⟩ rfl rfl rfl rfl rfl (by kernel_rfl) Try.func13 (by kernel_rfl)
    (of_decide_eq_true (by kernel_rfl)) (by unfold Func.isWrapper; first | (rw [if_pos (by decide +kernel)]; kernel_rfl) | (rw [if_neg (by decide +kernel)]; exact ⟨rfl, rfl⟩))
    (fun os started H enc _ => gtries_lifted os started H enc)

end Go.Proofs.Ytgcikokfgcpkfab

