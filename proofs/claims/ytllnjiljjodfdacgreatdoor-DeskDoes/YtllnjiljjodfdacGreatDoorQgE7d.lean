/-
 The document's own line: disk. Nothing here is claimed by itself.
-/
import Derived.Test.YtllnjiljjodfdacGreatDoorQgE7
import Derived.Test.YtllnjiljjodfdacGreatDoorQEO
import Derived.Test.YtllnjiljjodfdacGreatDoorQgS5
import Derived.Test.YtllnjiljjodfdacGreatDoorQgEZ
namespace Go.Proofs.YtllnjiljjodfdacGreatDoor
open Go.RowKit

def See7 (db cb : Nat) (s : Gd) (ua : Option Addr) (uc : Nat) (w : World) : Prop :=
 w.cell? ⟨db, 1, none⟩ = some (.pointer (some ⟨cb, 0, none⟩)) ∧ w.cell? ⟨cb, 0, none⟩ = some (.int .i64 s.d.ep) ∧ w.cell? ⟨cb, 1, none⟩ = some (.slice ua s.d.l.length uc) ∧ w.cell? ⟨cb, 5, none⟩ = some (.int .i64 s.now)
theorem Dk7.see {W0 w : World} {db : Nat} {m : Cm} {s : Gd} {told : List UInt8} {ua : Option Addr} {uc : Nat} (h : Dk7 W0 w db m s told) (hu : m.u = .slice ua s.d.l.length uc) : See7 db m.cb s ua uc w := by
 obtain ⟨c0, c1, -, -, -, c5, -⟩ := h.c.cells
 exact ⟨Blk.cell h.d 1, c0, by rw [c1, hu], c5⟩
theorem Dk7.u {W0 w : World} {db : Nat} {m : Cm} {s : Gd} {told : List UInt8} (h : Dk7 W0 w db m s told) : ∃ ua uc, m.u = .slice ua s.d.l.length uc := sl_slice h.c.plt.sl
theorem disk_i64 {W0 w : World} {db : Nat} {m : Cm} {s : Gd} {told : List UInt8} (h : Dk7 W0 w db m s told) : I64 s.d.ep ∧ I64 (s.d.l.length : Int) ∧ I64 s.now ∧ (listL wDisk [s.d.ep, (s.d.l.length : Int), s.now]).length ≤ 1000 := by
 obtain ⟨rs, t, pl⟩ := h.c.pl
 have hdf := h.c.plt.few
 have := pl.e0
 have := pl.e1
 have := pl.n0
 have := pl.n1
 refine ⟨by unfold I64; omega, by unfold I64; omega, by unfold I64; omega, ?_⟩
 have := list_len wDisk [s.d.ep, (s.d.l.length : Int), s.now] (by
  intro z hz
  simp at hz
  unfold Sm
  rcases hz with rfl | rfl | rfl <;> omega)
 simp only [List.length_cons, List.length_nil, show wDisk.length = 4 from rfl] at this
 omega
theorem see_told {W0 w w1 w' : World} {db : Nat} {m : Cm} {s : Gd} {told told' : List UInt8} {ua : Option Addr} {uc : Nat} (h : Dk7 W0 w db m s told) (hu : m.u = .slice ua s.d.l.length uc) (k : Chg [] w w1) (d : Dsk7 w' db m.cb told') (g : Chg [db] w1 w') : See7 db m.cb s ua uc w' := Dk7.see (m := { m with own := grw w.heap.size m.own (fun _ => 100) }) (h.tells k d g).k hu
theorem see_new {W0 w w1 : World} {db : Nat} {m : Cm} {s : Gd} {told : List UInt8} {ua : Option Addr} {uc : Nat} (h : Dk7 W0 w db m s told) (hu : m.u = .slice ua s.d.l.length uc) (k : Chg [] w w1) : See7 db m.cb s ua uc w1 := Dk7.see (m := { m with own := grw w.heap.size m.own (fun _ => 100) }) (h.fresh k) hu
set_option maxRecDepth 100000 in
set_option maxHeartbeats 8000000 in
theorem line_disk (W0 : World) (db : Nat) (m : Cm) (s : Gd) (told l : List UInt8) (w : World) (h : Dk7 W0 w db m s told) (hl : l.length ≤ 900000) (ht : told.length ≤ 900000000) (hv : Vars W0) (w0 : List UInt8) (r : List (List UInt8)) (hw : wordsL l = w0 :: r) (hne : ¬ w0 = wTear) (ms : List Int) (hm : r.mapM numL = some ms) (ew : w0 = wDisk) (hm0 : ms.length = 0) :
  Calls Tryz.prog 19 #[.pointer (some ⟨db, 0, none⟩), .string (strA l)] w fun e w' => e = .returned (.tuple #[]) ∧ ∃ m', Dn7 W0 w db m w' (s, sayL (listL wDisk [s.d.ep, (s.d.l.length : Int), s.now])).1 (told ++ (s, sayL (listL wDisk [s.d.ep, (s.d.l.length : Int), s.now])).2) m' := by
 have HD := hide h
 have HV := hide (hv.chg h.c.ch)
 have zdb := h.lt
 clear h hv
 have HMR := hide hm
 have HEW := hide ew
 have HM0 := hide hm0
 clear hm ew hm0
 have HW := hide hw
 have HWL := hide (show ∀ x ∈ w0 :: r, x.length ≤ 1000000 from fun x hx => by have := wordsF_wordE l [] x (by rw [← hw] at hx; exact hx); simp at this; omega)
 have hn6 : (w0 :: r).length ≤ 900001 := by rw [← hw]; exact Nat.le_trans (wordsF_len l []) (by omega)
 have ctear := neqw (l := [116, 101, 97, 114]) hne
 clear hne hw
 go_enter Tryz.func19, Tryz.ntmps19
 go_wp2_with fail
 refine (words_at l _ (by omega)).mono ?_
 rintro e w1 ⟨a, c, rfl, hc, hS, g1⟩
 rw [unhide HW] at hc hS ⊢
 obtain ⟨n, hn⟩ : ∃ n, n = (w0 :: r).length := ⟨_, rfl⟩
 rw [← hn] at hc hn6 ⊢
 have HN := hide hn
 have hn1 : 1 ≤ n := by rw [hn]; simp
 clear hn
 rcases hS with h0 | ⟨gs, os, rfl, hgs, hcell⟩
 ·cases h0
 have p0 : w1.cell? ⟨gs, os, none⟩ = some (.string (strA w0)) := hcell 0 w0 rfl
 have HCELL := hide hcell
 clear hcell
 have n0 : ((n : Int) == 0) = false := by simp; omega
 have n0' : (0 : Int) < (n : Int) := by omega
 have n0'' : 0 < n := by omega
 go_wp2_with fail
 clear ctear p0 n0 n0' n0''
 have k2 : Chg [] w1 ((w1.alloc (.cells #[.slice (some ⟨gs, os, none⟩) n c] 22)).alloc (.cells #[.slice none 0 0] 72)) := ((Chg.refl [] w1).alloc _).alloc _
 have L0 : Ln0 w ((w1.alloc (.cells #[.slice (some ⟨gs, os, none⟩) n c] 22)).alloc (.cells #[.slice none 0 0] 72)) w1.heap.size (w1.heap.size + 1) gs os n c w0 r := ⟨(Blk.new w1 _ _).alloc _, Blk.new1 w1 _ _ _, unhide HN, by simp; omega, by omega, by omega, by omega, g1.size, by have := g1.size; omega, fun i x hx => (k2.cell' (p := ⟨gs, os + i, none⟩) hgs (by simp)).trans (unhide HCELL i x hx), g1.trans k2 (by simp)⟩
 clear g1 k2 HCELL hgs
 generalize (w1.alloc (.cells #[.slice (some ⟨gs, os, none⟩) n c] 22)).alloc (.cells #[.slice none 0 0] 72) = w2 at *
 obtain ⟨lb, hlb⟩ : ∃ lb, lb = w1.heap.size := ⟨_, rfl⟩
 obtain ⟨nb, hnb⟩ : ∃ nb, nb = w1.heap.size + 1 := ⟨_, rfl⟩
 rw [← hnb] at L0 ⊢
 rw [← hlb] at L0 ⊢
 have HL0 := hide L0
 clear L0
 clear hlb hnb
 obtain ⟨i0, hi, hz0, hz1, hz2⟩ := kInfoParts intInfoC
 obtain ⟨B2, N2, -, hg, gl, gn, ln, zl, zn, -, -⟩ := unhide HL0
 go_loopw [10] (fun i wr => LI17 r w2 nb n i wr) (fun i _ => n - (intOf i).toNat)
 case atStart => exact ⟨1, [], _, by omega, hn1, rfl, hide rfl, hide (by simp), hide rfl, N2, World.ownsRow_nil _ _ _ _, Chg.refl _ _⟩
 case round =>
  have lnb2 := N2.lt
  clear N2
  obtain ⟨k, ns, v, hk1, hkn, rfl, HM, HI, HNL, BN, hown, hG⟩ := hrel
  have hnbd : ns.length ≤ 1000001 := by have := unhide HNL; omega
  have BL := B2.chg hG (by simp; exact ln)
  have lL : wr.cell? ⟨lb, 0, none⟩ = some (.slice (some ⟨gs, os, none⟩) n c) := BL.cell 0
  have llb := BL.lt
  have lnb := BN.lt
  have zG := hG.size
  have Gw : Chg [] w wr := (unhide HL0).G.trans hG (by intro x hx; simp at hx; subst hx; exact .inr zn)
  have lgs : gs < wr.heap.size := by omega
  by_cases hlt : k < n
  ·have hki : (k : Int) < (n : Int) := by omega
   have hk0 : (0 : Int) ≤ (k : Int) := by omega
   obtain ⟨x, hx⟩ : ∃ x, (w0 :: r)[k]? = some x := ⟨_, List.getElem?_eq_getElem (by rw [← unhide HN]; exact hlt)⟩
   have hxr : r[k - 1]? = some x := by obtain ⟨q, rfl⟩ : ∃ q, k = q + 1 := ⟨k - 1, by omega⟩; simpa using hx
   have cx : wr.cell? ⟨gs, os + k, none⟩ = some (.string (strA x)) := by rw [hG.cell' (p := ⟨gs, os + k, none⟩) hg (by simp; exact gn)]; exact (unhide HL0).C k x hx
   have hxl : x.length ≤ 1000000 := unhide HWL x (List.mem_of_getElem? hx)
   have HX := hide hxr
   clear hx hxr
   go_wp2_with fail
   refine (atoi_any x _ (by omega) ((unhide HV).chg Gw)).mono ?_
   rintro e w3 ⟨v3, ev, rfl, g3, hres⟩
   have Gw3 := Gw.trans g3 (by simp)
   have HV3 := hide ((unhide HV).chg Gw3)
   have BL3 := BL.chg g3 (by simp)
   have BN3 := BN.chg g3 (by simp)
   have own3 := own_chg hown g3
   have G3 := hG.trans (g3.wide (cs := [nb]) (by simp)) (fun y hy => .inl hy)
   have cx3 : w3.cell? ⟨gs, os + k, none⟩ = some (.string (strA x)) := by rw [g3.cell' lgs (by simp)]; exact cx
   have lgs3 := Nat.lt_of_lt_of_le lgs g3.size
   clear lL cx BL BN hown g3 Gw hG
   have hS0 : S17 lb gs os n c k x w3.drew := ⟨BL3.cell 0, cx3⟩
   have HSN := hide (show ∀ w', Chg [] w3.drew w' → S17 lb gs os n c k x w' from fun w' g => ⟨by rw [g.cell' (p := ⟨lb, 0, none⟩) BL3.lt (by simp)]; exact hS0.1, by rw [g.cell' (p := ⟨gs, os + k, none⟩) lgs3 (by simp)]; exact hS0.2⟩)
   have HVd := hide ((unhide HV3).chg ((Chg.refl [] w3).drew))
   rcases hres with ⟨hat, rfl⟩ | ⟨hat, t, p, rfl⟩
   ·have hv64 := atoi_bd hat
    by_cases hit : Lib.itoa v3 = x
    ·have hcmp : ((strA (Lib.itoa v3)).toList == (strA x).toList) = true := by rw [strA_toL, strA_toL, hit]; simp
     have HNUM := hide (numL_some hat hit)
     clear hat hit
     go_wp2_with fail
     refine wp_region_noPanic ?_
     refine wp_region_held_drew (S := (fun w' => S17 lb gs os n c k x w')) (by kernel_rfl) hS0 (fun hH => ?_)
     refine tk 0 rfl hH ?_
     walk_nrm
     refine tk (v := .bool false) 1 rfl hH ?_ (hz := by intro W' hSw; (try dsimp only at hSw); go_simp; (try simp); try with_reducible rfl)
     walk_nrm
     refine tk 2 rfl hH ?_
     walk_nrm
     refine tk 3 rfl hH ?_
     walk_nrm
     refine tk 5 rfl hH ?_
     walk_nrm
     refine tk 6 rfl hH ?_
     walk_nrm
     refine tk 7 rfl hH ?_
     walk_nrm
     refine tk 8 rfl hH ?_
     walk_nrm
     refine rd 4 rfl (fun K hK => ?_)
     go_simp
     refine (num_any v3 _ hv64 (unhide HVd)).mono ?_
     rintro e w6 ⟨rfl, g6⟩
     refine hK.out _ _ (unhide HSN w6 g6) (fun hH2 => ?_)
     clear hK K hH
     have hH := hH2
     clear hH2
     walk_nrm
     refine tk (v := .bool false) 9 rfl hH ?_ (hz := by intro W' hSw; (try dsimp only at hSw); go_simp; (try simp [hcmp]); try with_reducible rfl)
     walk_nrm
     refine tk 10 rfl hH ?_
     walk_nrm
     refine wpAnyH_done (by kernel_rfl) ?_ _
     refine NoPanic.normal ?_
     clear hH
     have GV6 := Gw3.drew.trans g6 (by simp)
     have BN6 := Blk.chg (show Blk w3.drew nb #[v] 72 from BN3) g6 (by simp)
     have own6 := own_chg (show w3.drew.ownsRow _ _ _ _ _ _ from own3) g6
     have G6 := (G3.drew).trans (g6.wide (cs := [nb]) (by simp)) (fun y hy => .inl hy)
     have cv6 : w6.cell? ⟨nb, 0, none⟩ = some v := BN6.cell 0
     have lb6 := BN6.lt
     have HCH := hide (mapM_snoc (unhide HM) (unhide HNUM))
     have HTK := hide (show r.take (k - 1) ++ [x] = r.take (k + 1 - 1) by rw [show k + 1 - 1 = (k - 1) + 1 by omega, List.take_add_one, unhide HX]; rfl)
     have hI := unhide HI
     have HI2 := hide (show ∀ y ∈ ns ++ [v3], I64 y from fun y hy => by rcases List.mem_append.1 hy with hy | hy; exact hI y hy; simp at hy; subst hy; exact hv64)
     clear hI BN3 own3 G3 g6 hS0
     go_wp2_with (at_builtin; refine wpList_append_own _ rfl (.tmp 86) (.tmp 88) 72 rfl w2.heap.size 3 i0 _ 1 8 Tryz.underlying72 hi hz0 hz1 hz2 rfl (by decide) v ns.length (ns.map (.int .i64)) rfl (own6.alloc _) ⟨w6.heap.size, 0, none⟩ 1 1 [.int .i64 v3] rfl rfl (Blk.new w6 #[.int .i64 v3] _).news (by simp [Value.oneCell']) (by unfold maxLen; omega) (by omega) (by have := G6.size; simp; omega) ?_; intro v7 w7 own7 gr7 _; obtain ⟨g7, cc7, rfl, -, -, -⟩ := own_shape own7 (by omega); have nb7 : v.ownBlock ≠ some nb := (fun e => by have := (own6.lt _ e).1; omega); have BN7 : Blk w7 nb #[v] 72 := grown_heap gr7 (BN6.alloc _) nb7; have cv7 : w7.cell? ⟨nb, 0, none⟩ = some v := BN7.cell 0; have fz7 := BN7.fz 0; have lb7 := BN7.lt; have G7 := (G6.alloc _).grown gr7 (fun y hy => .inr (own6.lt y hy).1); clear gr7 cv6 BN6)
     have kS := (Chg.refl [nb] w7).setCell (p := ⟨nb, 0, none⟩) (by simp) (.slice (some ⟨g7, 0, none⟩) (ns.length + 1) cc7)
     have BN8 := BN7.set 0 (.slice (some ⟨g7, 0, none⟩) (ns.length + 1) cc7)
     have own8 := own_keep own7 kS (by intro y hy e; simp at hy; subst hy; have := (own7.lt _ e).1; omega)
     have G8 := G7.trans kS (fun y hy => .inl hy)
     clear own7 kS G7 own6 G6 BN7
     go_roundw
     case rel => exact ⟨k + 1, ns ++ [v3], _, by omega, by omega, by go_num, hide (by rw [← unhide HTK]; exact unhide HCH), HI2, hide (by rw [List.length_append, unhide HNL]; simp; omega), BN8, by rw [List.map_append, List.length_append]; exact own8, G8⟩
     case measure => go_light; simp [intOf]; omega
    ·obtain ⟨v', -, hv'⟩ := mapM_each (unhide HMR) (unhide HX)
     rw [numL_long hat hit] at hv'
     cases hv'
   ·obtain ⟨v', -, hv'⟩ := mapM_each (unhide HMR) (unhide HX)
    rw [numL_none hat] at hv'
    cases hv'
  ·have hki : ¬ (k : Int) < (n : Int) := by omega
   have hke : k = n := by omega
   have hrl : r.length = n - 1 := by have := unhide HN; simp at this; omega
   have hns : ns = ms := by
    have h1 := unhide HM
    rw [hke, List.take_of_length_le (by omega), unhide HMR] at h1
    exact (Option.some.inj h1).symm
   subst hns
   obtain ⟨av, cv, rfl, hcv, hN⟩ := own_nmsD hown (unhide HI)
   have lN : wr.cell? ⟨nb, 0, none⟩ = some (.slice av ns.length cv) := BN.cell 0
   have HL1 := hide (show Ln1 w wr lb nb gs os n c w0 ns av cv from ⟨lL, (hG.cell' (p := ⟨gs, os, none⟩) hg (by simp; exact gn)).trans ((unhide HL0).C 0 w0 rfl), lN, hN, llb, lnb, lgs, by omega, Gw⟩)
   clear hke hrl HM HNL hown hG BN BL B2 HL0 HWL HW HN HI hcv hN Gw lN zG
   have ew := unhide HEW
   have hm0 := unhide HM0
   have B0 := hide (isg (W := wAdd) (t := ⟨#[97, 100, 100]⟩) (many := 2) (q := ns.length) ew)
   have B1 := hide (isg (W := wTake) (t := ⟨#[116, 97, 107, 101]⟩) (many := 3) (q := ns.length) ew)
   have B2 := hide (isg (W := wRenew) (t := ⟨#[114, 101, 110, 101, 119]⟩) (many := 5) (q := ns.length) ew)
   have B3 := hide (isg (W := wDone) (t := ⟨#[100, 111, 110, 101]⟩) (many := 4) (q := ns.length) ew)
   have B4 := hide (isg (W := wDrop) (t := ⟨#[100, 114, 111, 112]⟩) (many := 4) (q := ns.length) ew)
   have B5 := hide (isg (W := wOpen) (t := ⟨#[111, 112, 101, 110]⟩) (many := 1) (q := ns.length) ew)
   have B6 := hide (isg (W := wDown) (t := ⟨#[100, 111, 119, 110]⟩) (many := 1) (q := ns.length) ew)
   have B7 := hide (isg (W := wTick) (t := ⟨#[116, 105, 99, 107]⟩) (many := 1) (q := ns.length) ew)
   have B8 := hide (isg (W := wJob) (t := ⟨#[106, 111, 98]⟩) (many := 2) (q := ns.length) ew)
   have B9 := hide (isb_true (t := { data := #[100, 105, 115, 107] }) (many := 0) (q := (ns.length : Int)) (ew.trans (strA_toL wDisk).symm) (by omega))
   clear ew hm0
   go_upto_block 2 with fail
   have kA : Chg [] wr (wr.alloc (.cells #[.int .i64 0, .int .i64 0, .int .i64 0, .int .i64 0, .int .i64 0, .int .i64 0, .int .i64 0, .int .i64 0, .int .i64 0] 85)) := (Chg.refl [] wr).alloc _
   have HLA := hide ((unhide HL1).chg kA)
   have BX := Blk.new wr #[.int .i64 0, .int .i64 0, .int .i64 0, .int .i64 0, .int .i64 0, .int .i64 0, .int .i64 0, .int .i64 0, .int .i64 0] 85
   have zx : w.heap.size ≤ wr.heap.size := (unhide HL1).G.size
   clear HL1 kA lL
   generalize wr.alloc (.cells #[.int .i64 0, .int .i64 0, .int .i64 0, .int .i64 0, .int .i64 0, .int .i64 0, .int .i64 0, .int .i64 0, .int .i64 0] 85) = wa at *
   generalize wr.heap.size = xb at *
   have cx0 : wa.cell? ⟨xb, 0, none⟩ = some (.int .i64 0) := BX.cell 0
   have lx := BX.lt
   have HG := hide (unhide HLA).G
   obtain ⟨ua, uc, hu⟩ := (unhide HD).u
   have HUU := hide hu
   have hI := disk_i64 (unhide HD)
   have hIl := hI.2.2.2
   clear hu
   go_upto_region 58 with (go_at_call 42; (first | with_reducible refine ((unhide HLA).is B0).mono ?_ | with_reducible refine ((unhide HLA).is B1).mono ?_ | with_reducible refine ((unhide HLA).is B2).mono ?_ | with_reducible refine ((unhide HLA).is B3).mono ?_ | with_reducible refine ((unhide HLA).is B4).mono ?_ | with_reducible refine ((unhide HLA).is B5).mono ?_ | with_reducible refine ((unhide HLA).is B6).mono ?_ | with_reducible refine ((unhide HLA).is B7).mono ?_ | with_reducible refine ((unhide HLA).is B8).mono ?_ | with_reducible refine ((unhide HLA).is B9).mono ?_); rintro e w' ⟨rfl, hw'⟩; subst w')
   refine wp_region_noPanic ?_
   refine wp_region_held_drew (S := See7 db m.cb s ua uc) (by kernel_rfl) (show See7 db m.cb s ua uc _ from see_new (unhide HD) (unhide HUU) ((unhide HG).drew)) (fun hH => ?_)
   refine tk 0 rfl hH ?_
   walk_nrm
   refine tk 1 rfl hH ?_
   walk_nrm
   refine tk 2 rfl hH ?_
   walk_nrm
   refine tk 3 rfl hH ?_
   walk_nrm
   refine tk 4 rfl hH ?_
   walk_nrm
   refine tk 5 rfl hH ?_
   walk_nrm
   refine tk 6 rfl hH ?_
   walk_nrm
   refine tk 7 rfl hH ?_
   walk_nrm
   refine tk 8 rfl hH ?_
   walk_nrm
   refine tk 9 rfl hH ?_
   walk_nrm
   refine tk 10 rfl hH ?_
   walk_nrm
   refine tk 11 rfl hH ?_
   walk_nrm
   refine tk 12 rfl hH ?_
   walk_nrm
   refine tk 13 rfl hH ?_
   walk_nrm
   refine tk 14 rfl hH ?_
   walk_nrm
   refine tk 15 rfl hH ?_
   walk_nrm
   refine tk 16 rfl hH ?_
   walk_nrm
   refine tk 17 rfl hH ?_
   walk_nrm
   refine tk 18 rfl hH ?_
   walk_nrm
   refine tk 19 rfl hH ?_
   walk_nrm
   refine tk 20 rfl hH ?_
   walk_nrm
   refine tk 21 rfl hH ?_
   walk_nrm
   refine tk 22 rfl hH ?_
   walk_nrm
   refine tk 23 rfl hH ?_
   walk_nrm
   refine tk 24 rfl hH ?_
   walk_nrm
   refine rd 25 rfl (fun K hK => ?_)
   go_simp
   have kL : Chg [] w (wa.drew.alloc (.cells #[.int .i64 s.d.ep, .int .i64 (s.d.l.length : Int), .int .i64 s.now] 3)) := ((unhide HG).drew).alloc _
   have N3 := nms_three (x := s.d.ep) (y := s.d.l.length) (z := s.now) hI.1 hI.2.1 hI.2.2.1 (Blk.new wa.drew #[.int .i64 s.d.ep, .int .i64 (s.d.l.length : Int), .int .i64 s.now] 3)
   have S7 := see_new (unhide HD) (unhide HUU) kL
   refine hK.out _ _ S7 (fun hH2 => ?_)
   clear hK K hH
   have hH := hH2
   clear hH2
   walk_nrm
   refine rd 26 rfl (fun K hK => ?_)
   go_simp
   refine (list_any wDisk _ 3 3 [s.d.ep, (s.d.l.length : Int), s.now] _ rfl (by omega) (by decide) N3 ((unhide HV).chg kL)).mono ?_
   rintro e w8 ⟨rfl, g8⟩
   have k8 := kL.trans g8 (by simp)
   have S8 := see_new (unhide HD) (unhide HUU) k8
   refine hK.out _ _ S8 (fun hH2 => ?_)
   clear hK K hH
   have hH := hH2
   clear hH2
   walk_nrm
   refine rd 27 rfl (fun K hK => ?_)
   go_simp
   refine (say_any db m.cb told (listL wDisk [s.d.ep, (s.d.l.length : Int), s.now]) _ (Blk.chg (unhide HD).d k8 (by simp)) (by omega)).mono ?_
   rintro e w9 ⟨rfl, dE, gE⟩
   have S9 := see_told (unhide HD) (unhide HUU) k8 dE gE
   refine hK.out _ _ S9 (fun hH2 => ?_)
   clear hK K hH
   have hH := hH2
   clear hH2
   walk_nrm
   refine wpAnyH_done (by kernel_rfl) ?_ _
   refine NoPanic.normal ?_
   clear hH
   go_wp2_with fail
   refine bodyPost_end (results_none rfl _ _ _) rfl ?_
   exact ⟨rfl, _, (unhide HD).tells k8 dE gE⟩
theorem cellsP_map : ∀ l : List (Int × Int), cellsP l = (pairsT l).map (.int .i64)
 | [] => rfl
 | p :: l => by
  have := cellsP_map l
  unfold cellsP pairsT at this ⊢
  rw [List.flatMap_cons, List.flatMap_cons, this]
  simp [pairV]
theorem own_pairs {w : World} {base : Nat} {e : TypeId} {v : Value} {l : List (Int × Int)} (h : w.ownsRow base e 1 v (l.length * 2) (cellsP l)) (hb : ∀ x ∈ pairsT l, I64 x) : ∃ a c, v = .slice a (pairsT l).length c ∧ Nms w a (pairsT l) := by
 rw [cellsP_map, show l.length * 2 = (pairsT l).length by rw [pairs_len]; omega] at h
 obtain ⟨a, c, e1, -, e2⟩ := own_nmsD h hb
 exact ⟨a, c, e1, e2⟩
set_option maxRecDepth 100000 in
set_option maxHeartbeats 8000000 in
theorem line_hold (W0 : World) (db : Nat) (m : Cm) (s : Gd) (told l : List UInt8) (w : World) (h : Dk7 W0 w db m s told) (hl : l.length ≤ 900000) (ht : told.length ≤ 900000000) (hv : Vars W0) (w0 : List UInt8) (r : List (List UInt8)) (hw : wordsL l = w0 :: r) (hne : ¬ w0 = wTear) (ms : List Int) (hm : r.mapM numL = some ms) (ew : w0 = wHolders) (j : Int) (hm0 : ms = [j]) :
  Calls Tryz.prog 19 #[.pointer (some ⟨db, 0, none⟩), .string (strA l)] w fun e w' => e = .returned (.tuple #[]) ∧ ∃ m', Dn7 W0 w db m w' (s, holdT s j).1 (told ++ (s, holdT s j).2) m' := by
 have HD := hide h
 have HV := hide (hv.chg h.c.ch)
 have zdb := h.lt
 clear h hv
 have HMR := hide hm
 have HEW := hide ew
 have HM0 := hide hm0
 clear hm ew hm0
 have HW := hide hw
 have HWL := hide (show ∀ x ∈ w0 :: r, x.length ≤ 1000000 from fun x hx => by have := wordsF_wordE l [] x (by rw [← hw] at hx; exact hx); simp at this; omega)
 have hn6 : (w0 :: r).length ≤ 900001 := by rw [← hw]; exact Nat.le_trans (wordsF_len l []) (by omega)
 have ctear := neqw (l := [116, 101, 97, 114]) hne
 clear hne hw
 go_enter Tryz.func19, Tryz.ntmps19
 go_wp2_with fail
 refine (words_at l _ (by omega)).mono ?_
 rintro e w1 ⟨a, c, rfl, hc, hS, g1⟩
 rw [unhide HW] at hc hS ⊢
 obtain ⟨n, hn⟩ : ∃ n, n = (w0 :: r).length := ⟨_, rfl⟩
 rw [← hn] at hc hn6 ⊢
 have HN := hide hn
 have hn1 : 1 ≤ n := by rw [hn]; simp
 clear hn
 rcases hS with h0 | ⟨gs, os, rfl, hgs, hcell⟩
 ·cases h0
 have p0 : w1.cell? ⟨gs, os, none⟩ = some (.string (strA w0)) := hcell 0 w0 rfl
 have HCELL := hide hcell
 clear hcell
 have n0 : ((n : Int) == 0) = false := by simp; omega
 have n0' : (0 : Int) < (n : Int) := by omega
 have n0'' : 0 < n := by omega
 go_wp2_with fail
 clear ctear p0 n0 n0' n0''
 have k2 : Chg [] w1 ((w1.alloc (.cells #[.slice (some ⟨gs, os, none⟩) n c] 22)).alloc (.cells #[.slice none 0 0] 72)) := ((Chg.refl [] w1).alloc _).alloc _
 have L0 : Ln0 w ((w1.alloc (.cells #[.slice (some ⟨gs, os, none⟩) n c] 22)).alloc (.cells #[.slice none 0 0] 72)) w1.heap.size (w1.heap.size + 1) gs os n c w0 r := ⟨(Blk.new w1 _ _).alloc _, Blk.new1 w1 _ _ _, unhide HN, by simp; omega, by omega, by omega, by omega, g1.size, by have := g1.size; omega, fun i x hx => (k2.cell' (p := ⟨gs, os + i, none⟩) hgs (by simp)).trans (unhide HCELL i x hx), g1.trans k2 (by simp)⟩
 clear g1 k2 HCELL hgs
 generalize (w1.alloc (.cells #[.slice (some ⟨gs, os, none⟩) n c] 22)).alloc (.cells #[.slice none 0 0] 72) = w2 at *
 obtain ⟨lb, hlb⟩ : ∃ lb, lb = w1.heap.size := ⟨_, rfl⟩
 obtain ⟨nb, hnb⟩ : ∃ nb, nb = w1.heap.size + 1 := ⟨_, rfl⟩
 rw [← hnb] at L0 ⊢
 rw [← hlb] at L0 ⊢
 have HL0 := hide L0
 clear L0
 clear hlb hnb
 obtain ⟨i0, hi, hz0, hz1, hz2⟩ := kInfoParts intInfoC
 obtain ⟨B2, N2, -, hg, gl, gn, ln, zl, zn, -, -⟩ := unhide HL0
 go_loopw [10] (fun i wr => LI17 r w2 nb n i wr) (fun i _ => n - (intOf i).toNat)
 case atStart => exact ⟨1, [], _, by omega, hn1, rfl, hide rfl, hide (by simp), hide rfl, N2, World.ownsRow_nil _ _ _ _, Chg.refl _ _⟩
 case round =>
  have lnb2 := N2.lt
  clear N2
  obtain ⟨k, ns, v, hk1, hkn, rfl, HM, HI, HNL, BN, hown, hG⟩ := hrel
  have hnbd : ns.length ≤ 1000001 := by have := unhide HNL; omega
  have BL := B2.chg hG (by simp; exact ln)
  have lL : wr.cell? ⟨lb, 0, none⟩ = some (.slice (some ⟨gs, os, none⟩) n c) := BL.cell 0
  have llb := BL.lt
  have lnb := BN.lt
  have zG := hG.size
  have Gw : Chg [] w wr := (unhide HL0).G.trans hG (by intro x hx; simp at hx; subst hx; exact .inr zn)
  have lgs : gs < wr.heap.size := by omega
  by_cases hlt : k < n
  ·have hki : (k : Int) < (n : Int) := by omega
   have hk0 : (0 : Int) ≤ (k : Int) := by omega
   obtain ⟨x, hx⟩ : ∃ x, (w0 :: r)[k]? = some x := ⟨_, List.getElem?_eq_getElem (by rw [← unhide HN]; exact hlt)⟩
   have hxr : r[k - 1]? = some x := by obtain ⟨q, rfl⟩ : ∃ q, k = q + 1 := ⟨k - 1, by omega⟩; simpa using hx
   have cx : wr.cell? ⟨gs, os + k, none⟩ = some (.string (strA x)) := by rw [hG.cell' (p := ⟨gs, os + k, none⟩) hg (by simp; exact gn)]; exact (unhide HL0).C k x hx
   have hxl : x.length ≤ 1000000 := unhide HWL x (List.mem_of_getElem? hx)
   have HX := hide hxr
   clear hx hxr
   go_wp2_with fail
   refine (atoi_any x _ (by omega) ((unhide HV).chg Gw)).mono ?_
   rintro e w3 ⟨v3, ev, rfl, g3, hres⟩
   have Gw3 := Gw.trans g3 (by simp)
   have HV3 := hide ((unhide HV).chg Gw3)
   have BL3 := BL.chg g3 (by simp)
   have BN3 := BN.chg g3 (by simp)
   have own3 := own_chg hown g3
   have G3 := hG.trans (g3.wide (cs := [nb]) (by simp)) (fun y hy => .inl hy)
   have cx3 : w3.cell? ⟨gs, os + k, none⟩ = some (.string (strA x)) := by rw [g3.cell' lgs (by simp)]; exact cx
   have lgs3 := Nat.lt_of_lt_of_le lgs g3.size
   clear lL cx BL BN hown g3 Gw hG
   have hS0 : S17 lb gs os n c k x w3.drew := ⟨BL3.cell 0, cx3⟩
   have HSN := hide (show ∀ w', Chg [] w3.drew w' → S17 lb gs os n c k x w' from fun w' g => ⟨by rw [g.cell' (p := ⟨lb, 0, none⟩) BL3.lt (by simp)]; exact hS0.1, by rw [g.cell' (p := ⟨gs, os + k, none⟩) lgs3 (by simp)]; exact hS0.2⟩)
   have HVd := hide ((unhide HV3).chg ((Chg.refl [] w3).drew))
   rcases hres with ⟨hat, rfl⟩ | ⟨hat, t, p, rfl⟩
   ·have hv64 := atoi_bd hat
    by_cases hit : Lib.itoa v3 = x
    ·have hcmp : ((strA (Lib.itoa v3)).toList == (strA x).toList) = true := by rw [strA_toL, strA_toL, hit]; simp
     have HNUM := hide (numL_some hat hit)
     clear hat hit
     go_wp2_with fail
     refine wp_region_noPanic ?_
     refine wp_region_held_drew (S := (fun w' => S17 lb gs os n c k x w')) (by kernel_rfl) hS0 (fun hH => ?_)
     refine tk 0 rfl hH ?_
     walk_nrm
     refine tk (v := .bool false) 1 rfl hH ?_ (hz := by intro W' hSw; (try dsimp only at hSw); go_simp; (try simp); try with_reducible rfl)
     walk_nrm
     refine tk 2 rfl hH ?_
     walk_nrm
     refine tk 3 rfl hH ?_
     walk_nrm
     refine tk 5 rfl hH ?_
     walk_nrm
     refine tk 6 rfl hH ?_
     walk_nrm
     refine tk 7 rfl hH ?_
     walk_nrm
     refine tk 8 rfl hH ?_
     walk_nrm
     refine rd 4 rfl (fun K hK => ?_)
     go_simp
     refine (num_any v3 _ hv64 (unhide HVd)).mono ?_
     rintro e w6 ⟨rfl, g6⟩
     refine hK.out _ _ (unhide HSN w6 g6) (fun hH2 => ?_)
     clear hK K hH
     have hH := hH2
     clear hH2
     walk_nrm
     refine tk (v := .bool false) 9 rfl hH ?_ (hz := by intro W' hSw; (try dsimp only at hSw); go_simp; (try simp [hcmp]); try with_reducible rfl)
     walk_nrm
     refine tk 10 rfl hH ?_
     walk_nrm
     refine wpAnyH_done (by kernel_rfl) ?_ _
     refine NoPanic.normal ?_
     clear hH
     have GV6 := Gw3.drew.trans g6 (by simp)
     have BN6 := Blk.chg (show Blk w3.drew nb #[v] 72 from BN3) g6 (by simp)
     have own6 := own_chg (show w3.drew.ownsRow _ _ _ _ _ _ from own3) g6
     have G6 := (G3.drew).trans (g6.wide (cs := [nb]) (by simp)) (fun y hy => .inl hy)
     have cv6 : w6.cell? ⟨nb, 0, none⟩ = some v := BN6.cell 0
     have lb6 := BN6.lt
     have HCH := hide (mapM_snoc (unhide HM) (unhide HNUM))
     have HTK := hide (show r.take (k - 1) ++ [x] = r.take (k + 1 - 1) by rw [show k + 1 - 1 = (k - 1) + 1 by omega, List.take_add_one, unhide HX]; rfl)
     have hI := unhide HI
     have HI2 := hide (show ∀ y ∈ ns ++ [v3], I64 y from fun y hy => by rcases List.mem_append.1 hy with hy | hy; exact hI y hy; simp at hy; subst hy; exact hv64)
     clear hI BN3 own3 G3 g6 hS0
     go_wp2_with (at_builtin; refine wpList_append_own _ rfl (.tmp 86) (.tmp 88) 72 rfl w2.heap.size 3 i0 _ 1 8 Tryz.underlying72 hi hz0 hz1 hz2 rfl (by decide) v ns.length (ns.map (.int .i64)) rfl (own6.alloc _) ⟨w6.heap.size, 0, none⟩ 1 1 [.int .i64 v3] rfl rfl (Blk.new w6 #[.int .i64 v3] _).news (by simp [Value.oneCell']) (by unfold maxLen; omega) (by omega) (by have := G6.size; simp; omega) ?_; intro v7 w7 own7 gr7 _; obtain ⟨g7, cc7, rfl, -, -, -⟩ := own_shape own7 (by omega); have nb7 : v.ownBlock ≠ some nb := (fun e => by have := (own6.lt _ e).1; omega); have BN7 : Blk w7 nb #[v] 72 := grown_heap gr7 (BN6.alloc _) nb7; have cv7 : w7.cell? ⟨nb, 0, none⟩ = some v := BN7.cell 0; have fz7 := BN7.fz 0; have lb7 := BN7.lt; have G7 := (G6.alloc _).grown gr7 (fun y hy => .inr (own6.lt y hy).1); clear gr7 cv6 BN6)
     have kS := (Chg.refl [nb] w7).setCell (p := ⟨nb, 0, none⟩) (by simp) (.slice (some ⟨g7, 0, none⟩) (ns.length + 1) cc7)
     have BN8 := BN7.set 0 (.slice (some ⟨g7, 0, none⟩) (ns.length + 1) cc7)
     have own8 := own_keep own7 kS (by intro y hy e; simp at hy; subst hy; have := (own7.lt _ e).1; omega)
     have G8 := G7.trans kS (fun y hy => .inl hy)
     clear own7 kS G7 own6 G6 BN7
     go_roundw
     case rel => exact ⟨k + 1, ns ++ [v3], _, by omega, by omega, by go_num, hide (by rw [← unhide HTK]; exact unhide HCH), HI2, hide (by rw [List.length_append, unhide HNL]; simp; omega), BN8, by rw [List.map_append, List.length_append]; exact own8, G8⟩
     case measure => go_light; simp [intOf]; omega
    ·obtain ⟨v', -, hv'⟩ := mapM_each (unhide HMR) (unhide HX)
     rw [numL_long hat hit] at hv'
     cases hv'
   ·obtain ⟨v', -, hv'⟩ := mapM_each (unhide HMR) (unhide HX)
    rw [numL_none hat] at hv'
    cases hv'
  ·have hki : ¬ (k : Int) < (n : Int) := by omega
   have hke : k = n := by omega
   have hrl : r.length = n - 1 := by have := unhide HN; simp at this; omega
   have hns : ns = ms := by
    have h1 := unhide HM
    rw [hke, List.take_of_length_le (by omega), unhide HMR] at h1
    exact (Option.some.inj h1).symm
   subst hns
   obtain ⟨av, cv, rfl, hcv, hN⟩ := own_nmsD hown (unhide HI)
   have lN : wr.cell? ⟨nb, 0, none⟩ = some (.slice av ns.length cv) := BN.cell 0
   have HL1 := hide (show Ln1 w wr lb nb gs os n c w0 ns av cv from ⟨lL, (hG.cell' (p := ⟨gs, os, none⟩) hg (by simp; exact gn)).trans ((unhide HL0).C 0 w0 rfl), lN, hN, llb, lnb, lgs, by omega, Gw⟩)
   have HZN := hide (show w.heap.size ≤ nb ∧ ∀ g o, av = some ⟨g, o, none⟩ → w.heap.size ≤ g from ⟨zn, fun g o e => Nat.le_trans (unhide HL0).G.size (hown.lt g (by rw [e]; rfl)).1⟩)
   clear hke hrl HM HNL hown hG BN BL B2 HL0 HWL HW HN HI hcv hN Gw lN zG
   have ew := unhide HEW
   obtain rfl := unhide HM0
   have B0 := hide (isg (W := wAdd) (t := ⟨#[97, 100, 100]⟩) (many := 2) (q := [j].length) ew)
   have B1 := hide (isg (W := wTake) (t := ⟨#[116, 97, 107, 101]⟩) (many := 3) (q := [j].length) ew)
   have B2 := hide (isg (W := wRenew) (t := ⟨#[114, 101, 110, 101, 119]⟩) (many := 5) (q := [j].length) ew)
   have B3 := hide (isg (W := wDone) (t := ⟨#[100, 111, 110, 101]⟩) (many := 4) (q := [j].length) ew)
   have B4 := hide (isg (W := wDrop) (t := ⟨#[100, 114, 111, 112]⟩) (many := 4) (q := [j].length) ew)
   have B5 := hide (isg (W := wOpen) (t := ⟨#[111, 112, 101, 110]⟩) (many := 1) (q := [j].length) ew)
   have B6 := hide (isg (W := wDown) (t := ⟨#[100, 111, 119, 110]⟩) (many := 1) (q := [j].length) ew)
   have B7 := hide (isg (W := wTick) (t := ⟨#[116, 105, 99, 107]⟩) (many := 1) (q := [j].length) ew)
   have B8 := hide (isg (W := wJob) (t := ⟨#[106, 111, 98]⟩) (many := 2) (q := [j].length) ew)
   have B9 := hide (isg (W := wDisk) (t := ⟨#[100, 105, 115, 107]⟩) (many := 0) (q := [j].length) ew)
   have B10 := hide (isg (W := wLog) (t := ⟨#[108, 111, 103]⟩) (many := 0) (q := [j].length) ew)
   have B11 := hide (isb_true (t := { data := #[104, 111, 108, 100, 101, 114, 115] }) (many := 1) (q := ([j].length : Int)) (ew.trans (strA_toL wHolders).symm) (by rfl))
   clear ew
   go_upto_block 2 with fail
   have kA : Chg [] wr (wr.alloc (.cells #[.int .i64 0, .int .i64 0, .int .i64 0, .int .i64 0, .int .i64 0, .int .i64 0, .int .i64 0, .int .i64 0, .int .i64 0] 85)) := (Chg.refl [] wr).alloc _
   have HLA := hide ((unhide HL1).chg kA)
   have BX := Blk.new wr #[.int .i64 0, .int .i64 0, .int .i64 0, .int .i64 0, .int .i64 0, .int .i64 0, .int .i64 0, .int .i64 0, .int .i64 0] 85
   have zx : w.heap.size ≤ wr.heap.size := (unhide HL1).G.size
   clear HL1 kA lL
   generalize wr.alloc (.cells #[.int .i64 0, .int .i64 0, .int .i64 0, .int .i64 0, .int .i64 0, .int .i64 0, .int .i64 0, .int .i64 0, .int .i64 0] 85) = wa at *
   generalize wr.heap.size = xb at *
   have cx0 : wa.cell? ⟨xb, 0, none⟩ = some (.int .i64 0) := BX.cell 0
   have lx := BX.lt
   have HG := hide (unhide HLA).G
   obtain ⟨rs, t, pl⟩ := (unhide HD).c.pl
   have hd := (unhide HD).c.plt.few
   have hfew := pl.few hd
   have HE := hide pl.evOk
   have HOK := hide (hold_ok (unhide HE) j)
   have hps := hold_len (evs (recsL s.d.l)) j
   have hpl : (pairsT (holdL (evs (recsL s.d.l)) j)).length ≤ 1000 := by rw [pairs_len]; omega
   have hll : (listL wHolders (pairsT (holdL (evs (recsL s.d.l)) j))).length ≤ 60000 := by have := list_len wHolders (pairsT (holdL (evs (recsL s.d.l)) j)) (unhide HOK); simp only [show wHolders.length = 7 from rfl] at this; omega
   obtain ⟨ua, uc, hu, huc, hby⟩ := sl_byt (unhide HD).c.plt.sl (unhide HD).c.plt.ok
   have HUU := hide hu
   have HBY := hide hby
   obtain ⟨-, h0 | ⟨g, off, rfl, hg, hc⟩⟩ := (unhide HLA).nm
   ·cases h0
   have lgA : g < wa.heap.size := hg
   have lnA := (unhide HLA).nb
   have zn1 := (unhide HZN).1
   have zg1 := (unhide HZN).2 g off rfl
   have HSN := hide (show ∀ w', Chg [] wa w' → w'.cell? ⟨db, 1, none⟩ = some (.pointer (some ⟨m.cb, 0, none⟩)) ∧ w'.cell? ⟨m.cb, 1, none⟩ = some (.slice ua s.d.l.length uc) ∧ w'.cell? ⟨nb, 0, none⟩ = some (.slice (some ⟨g, off, none⟩) 1 cv) ∧ w'.cell? ⟨g, off, none⟩ = some (.int .i64 j) from fun w' k => by
    have L := (unhide HLA).chg k
    have sE := see_new (unhide HD) (unhide HUU) L.G
    exact ⟨sE.1, sE.2.2.1, L.V, (k.cell' (p := ⟨g, off, none⟩) hg (by simp)).trans (hc 0 j rfl)⟩)
   clear pl hu hby hc hg
   go_upto_region 68 with (go_at_call 42; (first | with_reducible refine ((unhide HLA).is B0).mono ?_ | with_reducible refine ((unhide HLA).is B1).mono ?_ | with_reducible refine ((unhide HLA).is B2).mono ?_ | with_reducible refine ((unhide HLA).is B3).mono ?_ | with_reducible refine ((unhide HLA).is B4).mono ?_ | with_reducible refine ((unhide HLA).is B5).mono ?_ | with_reducible refine ((unhide HLA).is B6).mono ?_ | with_reducible refine ((unhide HLA).is B7).mono ?_ | with_reducible refine ((unhide HLA).is B8).mono ?_ | with_reducible refine ((unhide HLA).is B9).mono ?_ | with_reducible refine ((unhide HLA).is B10).mono ?_ | with_reducible refine ((unhide HLA).is B11).mono ?_); rintro e w' ⟨rfl, hw'⟩; subst w')
   refine wp_region_noPanic ?_
   refine wp_region_held_drew (S := (fun w' => w'.cell? ⟨db, 1, none⟩ = some (.pointer (some ⟨m.cb, 0, none⟩)) ∧ w'.cell? ⟨m.cb, 1, none⟩ = some (.slice ua s.d.l.length uc) ∧ w'.cell? ⟨nb, 0, none⟩ = some (.slice (some ⟨g, off, none⟩) 1 cv) ∧ w'.cell? ⟨g, off, none⟩ = some (.int .i64 j))) (by kernel_rfl) (show _ ∧ _ ∧ _ ∧ _ from unhide HSN _ ((Chg.refl [] wa).drew)) (fun hH => ?_)
   refine tk 0 rfl hH ?_
   walk_nrm
   refine tk 1 rfl hH ?_
   walk_nrm
   refine tk 2 rfl hH ?_
   walk_nrm
   refine tk 3 rfl hH ?_
   walk_nrm
   refine tk 4 rfl hH ?_
   walk_nrm
   refine tk 5 rfl hH ?_
   walk_nrm
   refine tk 6 rfl hH ?_
   walk_nrm
   refine tk 7 rfl hH ?_
   walk_nrm
   refine tk 8 rfl hH ?_
   walk_nrm
   refine tk 10 rfl hH ?_
   walk_nrm
   refine tk 11 rfl hH ?_
   walk_nrm
   refine tk 12 rfl hH ?_
   walk_nrm
   refine rd 9 rfl (fun K hK => ?_)
   go_simp
   refine (evof_any ua s.d.l.length uc (getB s.d.l) _ (by omega) huc ((unhide HBY).chg ((unhide HG).drew))).mono ?_
   rintro e w5 ⟨v5, rfl, own5, g5⟩
   have e0 : (allR s.d.l.length (getB s.d.l)).length = (evs (recsL s.d.l)).length := by rw [evs_len]; rfl
   rw [e0, show evs (allR s.d.l.length (getB s.d.l)) = evs (recsL s.d.l) from rfl] at own5
   obtain ⟨ae, ce, rfl, -, HF⟩ := own_evs own5 rfl
   have k5 := ((Chg.refl [] wa).drew).trans g5 (by simp)
   have S5 := unhide HSN _ k5
   clear own5 g5 e0
   refine hK.out _ _ S5 (fun hH2 => ?_)
   clear hK K hH
   have hH := hH2
   clear hH2
   walk_nrm
   refine rd 13 rfl (fun K hK => ?_)
   go_simp
   refine (holdof_any ae (evs (recsL s.d.l)).length ce (evs (recsL s.d.l)) j _ rfl (by omega) HF).mono ?_
   rintro e w6 ⟨v6, rfl, own6, g6⟩
   obtain ⟨ap, cp, rfl, HP⟩ := own_pairs own6 (fun x hx => (unhide HOK x hx).i64)
   have k6 := k5.trans g6 (by simp)
   have S6 := unhide HSN _ k6
   have V6 := hide ((unhide HV).chg ((unhide HG).trans k6 (by simp)))
   clear own6 g6 HF k5 S5
   refine hK.out _ _ S6 (fun hH2 => ?_)
   clear hK K hH
   have hH := hH2
   clear hH2
   walk_nrm
   refine rd 14 rfl (fun K hK => ?_)
   go_simp
   refine (list_any wHolders ap _ cp (pairsT (holdL (evs (recsL s.d.l)) j)) _ rfl (by omega) (by decide) HP (unhide V6)).mono ?_
   rintro e w8 ⟨rfl, g8⟩
   have k8 := k6.trans g8 (by simp)
   have S8 := unhide HSN _ k8
   have G8 := (unhide HG).trans k8 (by simp)
   clear HP k6 S6 V6 g8
   refine hK.out _ _ S8 (fun hH2 => ?_)
   clear hK K hH
   have hH := hH2
   clear hH2
   walk_nrm
   refine rd 15 rfl (fun K hK => ?_)
   go_simp
   refine (say_any db m.cb told (listL wHolders (pairsT (holdL (evs (recsL s.d.l)) j))) _ (Blk.chg (unhide HD).d G8 (by simp)) (by omega)).mono ?_
   rintro e w9 ⟨rfl, dE, gE⟩
   have sE := see_told (unhide HD) (unhide HUU) G8 dE gE
   have S9 : w9.cell? ⟨nb, 0, none⟩ = some (.slice (some ⟨g, off, none⟩) 1 cv) ∧ w9.cell? ⟨g, off, none⟩ = some (.int .i64 j) := ⟨(gE.cell' (p := ⟨nb, 0, none⟩) (Nat.lt_of_lt_of_le lnA k8.size) (by simp; omega)).trans S8.2.2.1, (gE.cell' (p := ⟨g, off, none⟩) (Nat.lt_of_lt_of_le lgA k8.size) (by simp; omega)).trans S8.2.2.2⟩
   refine hK.out _ _ ⟨sE.1, sE.2.2.1, S9⟩ (fun hH2 => ?_)
   clear hK K hH
   have hH := hH2
   clear hH2
   walk_nrm
   refine wpAnyH_done (by kernel_rfl) ?_ _
   refine NoPanic.normal ?_
   clear hH
   go_wp2_with fail
   refine bodyPost_end (results_none rfl _ _ _) rfl ?_
   exact ⟨rfl, _, (unhide HD).tells G8 dE gE⟩
end Go.Proofs.YtllnjiljjodfdacGreatDoor
