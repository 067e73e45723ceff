/- For all lines the law DeskDoes returns true, and leaves them as they were; no condition (the listed variables of the library hold what the program text lays). -/
import Derived.Test.YtllnjiljjodfdacGreatDoorCards
import Derived.Test.YtllnjiljjodfdacGreatDoorTie
import Derived.SevenTiedAt
import Derived.Test.YtllnjiljjodfdacGreatDoorQE9
import Derived.Test.YtllnjiljjodfdacGreatDoorQgEI
import Derived.Test.YtllnjiljjodfdacGreatDoorQEFr
namespace Go.Proofs.YtllnjiljjodfdacGreatDoor
open Go.RowKit

theorem Chp.lower {W1 W0 w : World} {m : Cm} {s : Gd} (h : Chp W0 w m s) (k : Chg [] W1 W0) : Chp W1 w m s :=
 ⟨h.plt, h.vgr, h.pl, h.op, h.ov, (fun x hx => h.lo x (Nat.lt_of_lt_of_le hx k.size)), k.trans h.ch (by simp)⟩
theorem Dk7.lower {W1 W0 w : World} {db : Nat} {m : Cm} {s : Gd} {told : List UInt8} (h : Dk7 W0 w db m s told) (k : Chg [] W1 W0) : Dk7 W1 w db m s told :=
 ⟨h.d, h.c.lower k, h.o, Nat.le_trans k.size h.b⟩
theorem Strs.farQ {W W0 w : World} {M : Dm} {s : Gd} {told : List UInt8} {a : Option Addr} {ls : List (List UInt8)} (h : Strs W a ls) (hz : W.heap.size ≤ W0.heap.size) (D : Dq W0 w M s told) (k : Chg [] W w) : StrsF w M a ls := by
 rcases h with h | ⟨g, off, e, hg, hc⟩
 ·exact .inl h
 ·exact .inr ⟨g, off, e, Nat.lt_of_lt_of_le hg k.size, (fun e => by have := D.lo e; omega), fun i x hx => (k.cell' (p := ⟨g, off + i, none⟩) hg (by simp)).trans (hc i x hx)⟩
structure Two7 (W0 w : World) (M : Dm) (db : Nat) (m : Cm) (s s2 : Gd) (told : List UInt8) : Prop where
 D : Dq W0 w M s []
 K : Dk7 W0 w db m s2 told
 ap : ∀ x, M.mine x → m.own x = 100 ∧ x ≠ db
def Free7 (w : World) (M : Dm) (db : Nat) (m : Cm) (b : Nat) : Prop := b < w.heap.size ∧ ¬ M.mine b ∧ m.own b = 100 ∧ b ≠ db
abbrev up7 (w : World) (m : Cm) : Cm := { m with own := grw w.heap.size m.own (fun _ => 100) }
section
variable {W0 w w' : World} {M M' : Dm} {db : Nat} {m m' : Cm} {s s' s2 : Gd} {told t' : List UInt8} {b : Nat} {c : Array Value} {t : TypeId}
theorem Two7.new (h : Two7 W0 w M db m s s2 told) (k : Chg [] w w') : Two7 W0 w' M db (up7 w m) s s2 told :=
 ⟨h.D.new k, h.K.fresh k, fun x hx => ⟨crw_as m _ (h.D.hi x hx) (h.ap x hx).1, (h.ap x hx).2⟩⟩
theorem Free7.new (f : Free7 w M db m b) (k : Chg [] w w') : Free7 w' M db (up7 w m) b :=
 ⟨Nat.lt_of_lt_of_le f.1 k.size, f.2.1, crw_as m _ f.1 f.2.2.1, f.2.2.2⟩
theorem Two7.free (h : Two7 W0 w M db m s s2 told) (hb : w.heap.size ≤ b) (hl : b < w'.heap.size) : Free7 w' M db (up7 w m) b :=
 ⟨hl, h.D.free hb, crw_at m _ hb, fun e => by have := h.K.lt; omega⟩
theorem Two7.prog (h : Two7 W0 w M db m s s2 told) (X : Dqn W0 w M w' M' s' []) : Two7 W0 w' M' db (up7 w m) s' s2 told := by
 have nd : ¬ M.mine db := fun e => (h.ap db e).2 rfl
 have hB := X.blk h.K.d nd
 obtain ⟨bs, k, hb⟩ := X.ch
 refine ⟨X.k, ⟨hB, (h.K.c.tell (fun _ => 100)).keep k (fun x hx => ⟨crw_as m _ (h.D.hi x (hb x hx).1) (h.ap x (hb x hx).1).1, h.D.lo (hb x hx).1⟩), crw_as m _ h.K.lt h.K.o, h.K.b⟩, fun x hx => ?_⟩
 rcases Nat.lt_or_ge x w.heap.size with h1 | h1
 ·have hm := X.ow x h1 hx
  exact ⟨crw_as m _ h1 (h.ap x hm).1, (h.ap x hm).2⟩
 ·exact ⟨crw_at m _ h1, fun e => by have := h.K.lt; omega⟩
theorem Free7.prog (f : Free7 w M db m b) (X : Dqn W0 w M w' M' s' t') : Free7 w' M' db (up7 w m) b :=
 ⟨Nat.lt_of_lt_of_le f.1 X.size, X.other f.1 f.2.1, crw_as m _ f.1 f.2.2.1, f.2.2.2⟩
theorem Two7.doc (h : Two7 W0 w M db m s s2 told) (Y : Dn7 W0 w db m w' s' t' m') : Two7 W0 w' M db m' s s' t' := by
 obtain ⟨bs, k, hb⟩ := Y.ch
 refine ⟨h.D.keep k (fun x hx => ?_), Y.k, fun x hx => ⟨Y.ow x (h.D.hi x hx) (h.ap x hx).1, (h.ap x hx).2⟩⟩
 rcases (hb x hx).1 with h1 | h1
 ·exact ⟨fun e => h1 (h.ap x e).1, h.K.c.base h1⟩
 ·subst h1
  exact ⟨fun e => (h.ap x e).2 rfl, h.K.b⟩
theorem Free7.doc (f : Free7 w M db m b) (Y : Dn7 W0 w db m w' s' t' m') : Free7 w' M db m' b :=
 ⟨Nat.lt_of_lt_of_le f.1 Y.size, f.2.1, Y.ow b f.1 f.2.2.1, f.2.2.2⟩
theorem Free7.blkP (f : Free7 w M db m b) (X : Dqn W0 w M w' M' s' t') (h : Blk w b c t) : Blk w' b c t := X.blk h f.2.1
theorem Free7.blkD (f : Free7 w M db m b) (Y : Dn7 W0 w db m w' s' t' m') (h : Blk w b c t) : Blk w' b c t := Y.blk h f.2.2.1 f.2.2.2
end
set_option maxRecDepth 100000 in
set_option maxHeartbeats 8000000 in
theorem ddoes_any (a0 : Option Addr) (len0 cap0 : Nat) (ls0 : List (List UInt8)) (a1 : Option Addr) (len1 cap1 : Nat) (ls1 : List (List UInt8)) (W : World) (hl0 : ls0.length = len0) (hs0 : ∀ x ∈ ls0, x.length ≤ 1000000000000000000) (h0 : Strs W a0 ls0) (hl1 : ls1.length = len1) (hs1 : ∀ x ∈ ls1, x.length ≤ 1000000000000000000) (h1 : Strs W a1 ls1) (hv : Vars W) :
  Calls Tryz.prog 3 #[.slice a0 len0 cap0, .slice a1 len1 cap1] W fun e w' => e = .returned (.bool true) ∧ Chg [] W w' := by
 have HV := hide hv
 have HS0 := hide h0
 have HL0 := hide hl0
 have HB0 := hide hs0
 have HS1 := hide h1
 have HL1 := hide hl1
 have HB1 := hide hs1
 clear hv h0 hl0 hs0 h1 hl1 hs1
 by_cases hbig0 : 200 < len0
 ·have d0 : (200 : Int) < (len0 : Int) := by omega
  go_enter Tryz.func3, Tryz.ntmps3
  go_wp2_with fail
  refine (dkbegun_any _ (unhide HV)).mono ?_
  rintro e w1 ⟨rfl, G1⟩
  go_wp2
  go_ret
  exact ⟨rfl, G1⟩
 have d0 : ¬ (200 : Int) < (len0 : Int) := by omega
 by_cases hbig1 : 200 < len1
 ·have d1 : (200 : Int) < (len1 : Int) := by omega
  go_enter Tryz.func3, Tryz.ntmps3
  go_wp2_with fail
  refine (dkbegun_any _ (unhide HV)).mono ?_
  rintro e w1 ⟨rfl, G1⟩
  go_wp2
  go_ret
  exact ⟨rfl, G1⟩
 have d1 : ¬ (200 : Int) < (len1 : Int) := by omega
 cases hsl0 : slowF 0 ls0 with
 | true =>
  have HW0 := hide hsl0
  clear hsl0
  go_enter Tryz.func3, Tryz.ntmps3
  go_wp2_with fail
  refine (dkbegun_any _ (unhide HV)).mono ?_
  rintro e w1 ⟨rfl, G1⟩
  have HG := hide G1
  clear G1
  go_wp2_with fail
  refine (slow_any a0 len0 cap0 ls0 _ (unhide HL0) (by omega) (unhide HB0) ((unhide HS0).chg (unhide HG))).mono ?_
  rintro e w1 ⟨rfl, rfl⟩
  rw [unhide HW0]
  go_wp2
  go_ret
  exact ⟨rfl, unhide HG⟩
 | false =>
  have HW0 := hide hsl0
  have HC0 := hide (slowF_le ls0 0 hsl0)
  clear hsl0
  cases hsl1 : slowF 0 ls1 with
  | true =>
   have HW1 := hide hsl1
   clear hsl1
   go_enter Tryz.func3, Tryz.ntmps3
   go_wp2_with fail
   refine (dkbegun_any _ (unhide HV)).mono ?_
   rintro e w1 ⟨rfl, G1⟩
   have HG := hide G1
   clear G1
   go_wp2_with fail
   refine (slow_any a0 len0 cap0 ls0 _ (unhide HL0) (by omega) (unhide HB0) ((unhide HS0).chg (unhide HG))).mono ?_
   rintro e w1 ⟨rfl, rfl⟩
   rw [unhide HW0]
   go_wp2_with fail
   refine (slow_any a1 len1 cap1 ls1 _ (unhide HL1) (by omega) (unhide HB1) ((unhide HS1).chg (unhide HG))).mono ?_
   rintro e w1 ⟨rfl, rfl⟩
   rw [unhide HW1]
   go_wp2
   go_ret
   exact ⟨rfl, unhide HG⟩
  | false =>
   have HW1 := hide hsl1
   have HC1 := hide (slowF_le ls1 0 hsl1)
   clear hsl1
   go_enter Tryz.func3, Tryz.ntmps3
   go_wp2_with fail
   refine (dkbegun_any _ (unhide HV)).mono ?_
   rintro e w1 ⟨rfl, G1⟩
   have HG := hide G1
   clear G1
   go_wp2_with fail
   refine (slow_any a0 len0 cap0 ls0 _ (unhide HL0) (by omega) (unhide HB0) ((unhide HS0).chg (unhide HG))).mono ?_
   rintro e w1 ⟨rfl, rfl⟩
   rw [unhide HW0]
   go_wp2_with fail
   refine (slow_any a1 len1 cap1 ls1 _ (unhide HL1) (by omega) (unhide HB1) ((unhide HS1).chg (unhide HG))).mono ?_
   rintro e w1 ⟨rfl, rfl⟩
   rw [unhide HW1]
   go_wp2_with fail
   refine (dknew_any _).mono ?_
   rintro e w2 ⟨M, rfl, D⟩
   have HD := hide D
   obtain ⟨pd, hpd⟩ : ∃ p, M.db = p := ⟨_, rfl⟩
   rw [hpd]
   have HPD := hide hpd
   clear D hpd
   go_wp2_with fail
   refine (rnew_any _).mono ?_
   rintro e w3 ⟨db, m, rfl, K⟩
   have zW := (unhide HG).size
   have HV1 := hide ((unhide HV).chg (unhide HG))
   have T3 : Two7 w1 w3 M db m G0 G0 [] := ⟨(unhide HD).new K.c.ch, K.lower (unhide HD).c.ch, fun x hx => ⟨K.c.lo x ((unhide HD).hi x hx), fun e => by have h1 := (unhide HD).hi x hx; have h2 := K.b; omega⟩⟩
   have k4 := (Chg.refl [] w3).alloc (.cells #[.slice a0 len0 cap0, .slice a1 len1 cap1] 22)
   have B4 := Blk.new w3 #[.slice a0 len0 cap0, .slice a1 len1 cap1] 22
   have T4 := T3.new k4
   have F4 := T3.free (Nat.le_refl _) B4.lt
   obtain ⟨m4, hm4⟩ : ∃ m4, m4 = up7 w3 m := ⟨_, rfl⟩
   rw [← hm4] at T4 F4
   clear hm4 k4 T3 K HD
   go_upto_region 8 with fail
   generalize w3.alloc (.cells #[.slice a0 len0 cap0, .slice a1 len1 cap1] 22) = w4 at *
   obtain ⟨lb, hlb⟩ : ∃ lb, lb = w3.heap.size := ⟨_, rfl⟩
   rw [← hlb] at B4 F4 ⊢
   clear hlb
   have HT4 := hide T4
   have HF4 := hide F4
   have HB4 := hide B4
   clear T4 F4 B4
   go_wp2_with fail
   go_loopw [8] (fun i wr => ∃ (k : Nat) (M1 : Dm) (m1 : Cm) (s : Gd) (t : List UInt8), k ≤ 2 ∧ i = .int .i64 k ∧ Two7 w1 wr M1 db m1 s s t ∧ Free7 wr M1 db m1 lb ∧ Blk wr lb #[.slice a0 len0 cap0, .slice a1 len1 cap1] 22 ∧ M1.db = pd) (fun i _ => 2 - (intOf i).toNat)
   case atStart => exact ⟨0, M, m4, G0, [], by omega, rfl, unhide HT4, unhide HF4, unhide HB4, unhide HPD⟩
   case round =>
    obtain ⟨k, M1, m1, s, t, hk, rfl, T, F, B, hdb⟩ := hrel
    have GW := (unhide HG).trans T.D.c.ch (by simp)
    by_cases hlt : k < 2
    ·have hki : (k : Int) < 2 := by omega
     have hk0 : (0 : Int) ≤ (k : Int) := by omega
     obtain ⟨a, n, c, ls, hc, hl, hll, hS⟩ : ∃ a n c ls, wr.cell? ⟨lb, k, none⟩ = some (.slice a n c) ∧ ls.length = n ∧ (∀ x ∈ ls, x.length ≤ 9000) ∧ Strs W a ls := by
      rcases (show k = 0 ∨ k = 1 by omega) with rfl | rfl
      ·exact ⟨a0, len0, cap0, ls0, B.cell 0, unhide HL0, unhide HC0, unhide HS0⟩
      ·exact ⟨a1, len1, cap1, ls1, B.cell 1, unhide HL1, unhide HC1, unhide HS1⟩
     have HL := hide hl
     have HLL := hide hll
     have HS := hide hS
     have HC := hide (show ∀ w', Blk w' lb #[.slice a0 len0 cap0, .slice a1 len1 cap1] 22 → w'.cell? ⟨lb, k, none⟩ = some (.slice a n c) from fun w' b => (b.cell k).trans ((B.cell k).symm.trans hc))
     have lF := F.1
     have HT := hide T
     have HF := hide F
     have HB := hide B
     have HDB := hide hdb
     have HSF := hide (hS.farQ zW T.D GW)
     clear hl hll hS T F B hdb GW
     go_wp2_with fail
     refine (ddo_any w1 M1 s pd a n c ls _ (unhide HDB) (unhide HT).D (unhide HV1) (unhide HL) (fun x hx => by have := unhide HLL x hx; omega) (unhide HSF)).mono ?_
     rintro e w5 ⟨rfl, lO, M5, X5⟩
     have T5 := (unhide HT).prog X5
     have F5 := (unhide HF).prog X5
     have B5 := (unhide HF).blkP X5 (unhide HB)
     have HDB5 := hide (show M5.db = pd from X5.db.trans (unhide HDB))
     obtain ⟨f1, hf1⟩ : ∃ f, f = (faultL ls).1 := ⟨_, rfl⟩
     obtain ⟨f2, hf2⟩ : ∃ f, f = (faultL ls).2 := ⟨_, rfl⟩
     rw [← hf1, ← hf2]
     have HF1 := hide hf1
     have HF2 := hide hf2
     have k6 := (Chg.refl [] w5).alloc (.cells #[.int .i64 f1, .int .i64 f2] 31)
     have A6 := Blk.new w5 #[.int .i64 f1, .int .i64 f2] 31
     have T6 := T5.new k6
     have F6 := F5.new k6
     have B6 := B5.chg k6 (by simp)
     have E6 := T5.free (Nat.le_refl _) A6.lt
     obtain ⟨m6, hm6⟩ : ∃ m6, m6 = up7 w5 (up7 wr m1) := ⟨_, rfl⟩
     rw [← hm6] at T6 F6 E6
     have HLO := hide lO
     clear hf1 hf2 T5 F5 B5 X5 HT HF HB HSF k6 hm6 lO hc
     go_upto_region 12 with fail
     generalize w5.alloc (.cells #[.int .i64 f1, .int .i64 f2] 31) = w6 at *
     obtain ⟨fb, hfb⟩ : ∃ fb, fb = w5.heap.size := ⟨_, rfl⟩
     rw [← hfb] at A6 E6 ⊢
     clear hfb
     have hc6 : w6.cell? ⟨lb, k, none⟩ = some (.slice a n c) := unhide HC _ B6
     have lF6 := F6.1
     have HT6 := hide T6
     have HF6 := hide F6
     have HE6 := hide E6
     have HB6 := hide B6
     have HA6 := hide A6
     clear T6 F6 E6 B6 A6
     go_wp2_with fail
     refine (lfault_any a n c ls _ (unhide HL) (fun x hx => by have := unhide HLL x hx; omega) ((unhide HS).chg ((unhide HG).trans (unhide HT6).D.c.ch (by simp)))).mono ?_
     rintro e w7 ⟨rfl, g7⟩
     rw [← unhide HF1, ← unhide HF2]
     have k8 := g7.alloc (.cells #[.int .i64 f1, .int .i64 f2] 31)
     have C8 := Blk.new w7 #[.int .i64 f1, .int .i64 f2] 31
     have T8 := (unhide HT6).new k8
     have F8 := (unhide HF6).new k8
     have B8 := (unhide HB6).chg k8 (by simp)
     have A8 := (unhide HA6).chg k8 (by simp)
     obtain ⟨m8, hm8⟩ : ∃ m8, m8 = up7 w6 m6 := ⟨_, rfl⟩
     rw [← hm8] at T8 F8
     clear HT6 HF6 HE6 HB6 HA6 g7 k8 hm8 hc6
     go_upto_region 13 with fail
     generalize w7.alloc (.cells #[.int .i64 f1, .int .i64 f2] 31) = w8 at *
     obtain ⟨gb, hgb⟩ : ∃ gb, gb = w7.heap.size := ⟨_, rfl⟩
     rw [← hgb] at C8 ⊢
     clear hgb
     have a0' : w8.cell? ⟨fb, 0, none⟩ = some (.int .i64 f1) := A8.cell 0
     have a1' : w8.cell? ⟨fb, 1, none⟩ = some (.int .i64 f2) := A8.cell 1
     have c0' : w8.cell? ⟨gb, 0, none⟩ = some (.int .i64 f1) := C8.cell 0
     have c1' : w8.cell? ⟨gb, 1, none⟩ = some (.int .i64 f2) := C8.cell 1
     have lA8 := A8.lt
     have lC8 := C8.lt
     have HT8 := hide T8
     have HF8 := hide F8
     have HB8 := hide B8
     clear T8 F8 B8 A8 C8
     by_cases hf : f1 = 0
     ·have hfz : faultL ls = (0, 0) ∧ ls.length ≤ 150 := (faultL_cases ls).elim id (fun h => absurd ((unhide HF1).symm.trans hf) h)
      have e2 : f2 = 0 := by rw [unhide HF2, hfz.1]
      have hn : n ≤ 150 := by rw [← unhide HL]; exact hfz.2
      have HS1' := hide (show doS s ls = (linesT s ls).1 by unfold doS; rw [if_pos (by rw [hfz.1])])
      have hcmp : ((strA (doO s ls)).toList == (strA (linesT s ls).2).toList) = true := by unfold doO; rw [if_pos (by rw [hfz.1])]; simp
      have hc8 := unhide HC _ (unhide HB8)
      have lF8 := (unhide HF8).1
      have HSG := hide ((unhide HS).farG zW (unhide HT8).K ((unhide HG).trans (unhide HT8).D.c.ch (by simp)))
      subst hf e2
      clear hfz
      go_wp2_with fail
      refine (rdo_any w1 db m8 s t a n c ls _ (unhide HT8).K (unhide HV1) (unhide HL) hn (fun x hx => by have := unhide HLL x hx; omega) (unhide HSG)).mono ?_
      rintro e w9 ⟨rfl, m9, Y9⟩
      have T9 := (unhide HT8).doc Y9
      have F9 := (unhide HF8).doc Y9
      have B9 := (unhide HF8).blkD Y9 (unhide HB8)
      rw [unhide HS1'] at T9
      clear Y9
      go_wp2
      go_roundw
      case rel => exact ⟨k + 1, M5, m9, _, _, by omega, by go_num, T9, F9, B9, unhide HDB5⟩
      case measure => go_light; simp [intOf]; omega
     ·have hfn : ¬ (faultL ls).1 = 0 := fun h => hf ((unhide HF1).trans h)
      have b0 : (f1 == 0) = false := by simpa using hf
      have b1 : (f1 != 0) = true := by simpa using hf
      have HS1' := hide (show doS s ls = s by unfold doS; rw [if_neg hfn])
      have HSO := hide (show doO s ls = [] by unfold doO; rw [if_neg hfn])
      have hem : (strA []).toList.isEmpty = true := by rw [strA_toL]; rfl
      rw [unhide HSO]
      clear hfn
      go_wp2
      go_roundw
      case rel => exact ⟨k + 1, M5, m8, s, t, by omega, by go_num, by have := unhide HT8; rw [unhide HS1'] at this; exact this, unhide HF8, unhide HB8, unhide HDB5⟩
      case measure => go_light; simp [intOf]; omega
    ·have hki : ¬ (k : Int) < 2 := by omega
     clear T F B
     go_wp2
     go_ret
     exact ⟨rfl, GW⟩
end Go.Proofs.YtllnjiljjodfdacGreatDoor
namespace Go.Proofs.YtllnjiljjodfdacGreatDoor
open Go.ChangeShapes Go.WideShapes Go.ChangeAt Go.RowKit
set_option maxRecDepth 100000 in
theorem ddoes_lifted (os : Os) (started : os.Started) (H : Type) (enc : TypeId × Value → H) :
  ReturnsInHanded {} Tryz.checked os 3 .any (fun w args => (Rows.deskDoesSpec.pre enc Tryz.prog Tryz.f3 [] false w args ∧ laidMetH Tryz.prog laidF w) ∧ sizedMet enc Tryz.prog Tryz.f3 (OpenSpec.ofChange Rows.deskDoesSpec) false w args)
   (Rows.deskDoesSpec.post enc Tryz.prog Tryz.f3 false true false false) := by
 refine returnsInHanded_of_change_and (C := Tryz.checked) (X := fun w _ => laidMetH Tryz.prog laidF w) (fun _ _ _ hh h => h.of_heap hh) ownF started (by kernel_rfl) Tryz.func3
  (ChangeSpec.witness_shaped (enc := enc) (C := Tryz.checked) (os := os) (X := fun w _ => laidMetH Tryz.prog laidF w) false (World.doorLaid Tryz.prog 400 os) #[.slice none 0 0, .slice none 0 0] 8 rfl (World.shaped_of_RefB (by kernel_rfl) (by kernel_rfl)) (by kernel_rfl) (by kernel_rfl) (by kernel_rfl) (door_metF os _)) ?_
 intro W base args ds gs before hval0 hW hcnd hsz0 hL _
 have hsz : (DataW.weightsEach Tryz.prog (Tryz.f3.params.toList ++ Rows.deskDoesSpec.plain.varTypes Tryz.prog) (ds ++ gs)).all (· ≤ reachBytes) = true := hsz0
 clear hsz0
 have hval : ∀ (j : Nat) t v, Tryz.f3.params[j]? = some t → args[j]? = some v → Value.okWide Tryz.prog W .any base t v := hval0
 have hW' := hW
 obtain ⟨p, q, hA0, hV, rfl, hfz, hnd⟩ := hW
 have hA : DataW.TrodAll enc Tryz.prog W 0 (fun _ => true) true Tryz.f3.params.toList args.toList ds p := hA0
 rw [Tryz.params3] at hA hval hsz
 obtain ⟨v0, vs0, d0, ds0, p0, q0, hargs, rfl, rfl, h0, r0⟩ := trodAll_cons hA
 obtain ⟨v1, vs1, d1, ds1, p1, q1, rfl, rfl, rfl, h1, r1⟩ := trodAll_cons r0
 obtain ⟨rfl, rfl, rfl⟩ := trodAll_nil r1
 obtain rfl : args = #[v0, v1] := by cases args; simp_all
 obtain ⟨rfl, rfl⟩ := trodVars_none hV
 obtain ⟨a0, len0, cap0, rfl⟩ := okWide_slice Tryz.underlying22 (hval 0 22 v0 rfl rfl)
 have k0 := h0
 have lt0 : ∀ x ∈ p0, x.block < W.heap.size := by obtain ⟨m, hm⟩ := k0; exact DataW.trod_lt m _ _ _ hm
 obtain ⟨ls0, e0, c0, z0, S0, m0⟩ : ∃ ls : List (List UInt8), ls.length = len0 ∧ len0 ≤ cap0 ∧ (a0 = none → cap0 = 0) ∧ Strs W a0 ls ∧ ∀ y ∈ ls, y.length ∈ d0.weights Tryz.prog 22 := by
  obtain ⟨fuel, hf⟩ := h0
  exact strs_of_trod (by simpa [Value.cells] using hf)
 have y0 : ∀ x ∈ ls0, x.length ≤ 1000000000000000000 := fun x hx => reachF (by simpa using List.all_eq_true.1 hsz _ (DataW.weights_mem_each (j := 0) (t := 22) rfl rfl _ (m0 x hx)))
 obtain ⟨a1, len1, cap1, rfl⟩ := okWide_slice Tryz.underlying22 (hval 1 22 v1 rfl rfl)
 have k1 := h1
 have lt1 : ∀ x ∈ p1, x.block < W.heap.size := by obtain ⟨m, hm⟩ := k1; exact DataW.trod_lt m _ _ _ hm
 obtain ⟨ls1, e1, c1, z1, S1, m1⟩ : ∃ ls : List (List UInt8), ls.length = len1 ∧ len1 ≤ cap1 ∧ (a1 = none → cap1 = 0) ∧ Strs W a1 ls ∧ ∀ y ∈ ls, y.length ∈ d1.weights Tryz.prog 22 := by
  obtain ⟨fuel, hf⟩ := h1
  exact strs_of_trod (by simpa [Value.cells] using hf)
 have y1 : ∀ x ∈ ls1, x.length ≤ 1000000000000000000 := fun x hx => reachF (by simpa using List.all_eq_true.1 hsz _ (DataW.weights_mem_each (j := 1) (t := 22) rfl rfl _ (m1 x hx)))
 clear hA0 hval0
 refine (ddoes_any a0 len0 cap0 ls0 a1 len1 cap1 ls1 W e0 y0 S0 e1 y1 S1 (vars_of_laid hL)).mono fun e W' ⟨he, hch⟩ => ?_
 have bel := hch.below
 subst he
 exact ⟨_, rfl, _, _, _, [], _, [], hW', trodAll_mk1 (shut_bool Tryz.underlying4 _), (trodAll_cons_mk (Below.trod laidOutF (by kernel_rfl) (of_decide_eq_true (by kernel_rfl)) k0 bel lt0) (trodAll_cons_mk (Below.trod laidOutF (by kernel_rfl) (of_decide_eq_true (by kernel_rfl)) k1 bel lt1) trodAll_mk0)), rfl, bel.frame _, fun h => by cases h⟩
theorem ddoes_row : Rows.DeskDoesSaid :=
 OpenClaim.holds_of_wide 3 Tryz.f3 rfl rfl rfl rfl rfl rfl rfl ⟨rfl, rfl, rfl, rfl, rfl⟩ rfl rfl rfl rfl rfl (by kernel_rfl) Tryz.func3 (by kernel_rfl)
  (of_decide_eq_true (by kernel_rfl)) (by unfold Func.isWrapper; first | (rw [if_pos (by decide +kernel)]; kernel_rfl) | (rw [if_neg (by decide +kernel)]; exact ⟨rfl, rfl⟩))
  (fun os started H enc _ => ddoes_lifted os started H enc)
theorem ddoes_holds : Rows.DeskDoesCardSaid :=
 Claim7.holds_tied_plain_at .later [] [.data, .data, .data, .sentinel, .sentinel] true Rows.deskDoesCard.stood.harness true
  ddoes_row (fun _ h => by cases h) (by kernel_rfl) (fun _ h => by cases h) deskDoes_row_tie rfl ⟨rfl, rfl⟩ (by kernel_rfl) rfl
  (fun f fn hf hfn => by
   obtain rfl : f = 3 := Option.some.inj ((show Tryz.prog.funcNamed Rows.deskDoesRow.func = some 3 by kernel_rfl).symm.trans hf) |>.symm
   obtain rfl : fn = Tryz.f3 := (Option.some.inj (Tryz.func3.symm.trans hfn)).symm
   exact ⟨by kernel_rfl, fun j t ht => by
    rw [Tryz.params3] at ht
    have hm : t ∈ [22, 22] := by simpa using Array.mem_of_getElem? ht
    have hall : ([22, 22].all fun u => !Tryz.prog.wantsStandIn u) = true := by kernel_rfl
    exact (show Tryz.prog.wantsStandIn t = false by simpa using List.all_eq_true.1 hall t hm)⟩)
  (by kernel_rfl)
end Go.Proofs.YtllnjiljjodfdacGreatDoor
