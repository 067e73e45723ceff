/-
 The document's own line: what it begins with. Nothing here is claimed by itself.
-/
import Derived.Deep.CutBlock
import Derived.Deep.DeepCutAuto
import Derived.Deep.RegionHeld3
import Derived.Conc.WalkWords
import Derived.Test.YtllnjiljjodfdacGreatDoorQgE5
import Derived.Test.YtllnjiljjodfdacGreatDoorQgE4
import Derived.Test.YtllnjiljjodfdacGreatDoorQgED
import Derived.Test.YtllnjiljjodfdacGreatDoorQS4
namespace Go.Proofs.YtllnjiljjodfdacGreatDoor
open Go.RowKit

theorem words_at (l : List UInt8) (w : World) (hs : l.length ≤ 1000000) :
  Calls Tryz.prog 38 #[.string (strA l)] w fun e w' => ∃ a c, e = .returned (.slice a (wordsL l).length c) ∧ (wordsL l).length ≤ c ∧ Strs w' a (wordsL l) ∧ Chg [] w w' := by
 have e0 : (strA l).data.toList = l := by simp [strA]
 refine (words_any (strA l) w (by rw [strA_size]; exact hs)).mono ?_
 rintro e w' ⟨v, rfl, own, g⟩
 rw [e0] at own
 obtain ⟨a, c, rfl, hc, hS⟩ := own_strs own
 exact ⟨a, c, rfl, hc, hS, g⟩
theorem isb_true {w0 : List UInt8} {t : ByteArray} {many q : Int} (h : w0 = t.toList) (hq : q = many) : ((w0 == t.toList) && (q == many)) = true := by
 rw [h, hq]; simp
theorem isb_false {w0 : List UInt8} {t : ByteArray} {many : Int} {q : Nat} (h : ¬ (w0 = t.toList ∧ (q : Int) = many)) : ((w0 == t.toList) && ((q : Int) == many)) = false := by
 by_cases h1 : w0 = t.toList
 ·rw [beq_false_of_ne (show ¬ (q : Int) = many from fun e => h ⟨h1, e⟩)]; simp
 ·rw [beq_false_of_ne h1]; rfl
theorem mapM_each : ∀ {r : List (List UInt8)} {ns : List Int}, r.mapM numL = some ns → ∀ {i : Nat} {x : List UInt8}, r[i]? = some x → ∃ v, ns[i]? = some v ∧ numL x = some v
 | [], ns, h, i, x, hx => by simp at hx
 | y :: r, ns, h, i, x, hx => by
  rw [List.mapM_cons] at h
  cases hy : numL y with
  | none => rw [hy] at h; cases h
  | some v =>
   rw [hy] at h
   cases hr : r.mapM numL with
   | none => rw [hr] at h; cases h
   | some ms =>
    rw [hr] at h
    simp at h
    subst h
    cases i with
    | zero => simp at hx; subst hx; exact ⟨v, rfl, hy⟩
    | succ i => simpa using mapM_each hr (by simpa using hx)
structure Ln0 (w w2 : World) (lb nb gs os n c : Nat) (w0 : List UInt8) (r : List (List UInt8)) : Prop where
 B : Blk w2 lb #[.slice (some ⟨gs, os, none⟩) n c] 22
 N : Blk w2 nb #[.slice none 0 0] 72
 hn : n = (w0 :: r).length
 hg : gs < w2.heap.size
 gl : gs ≠ lb
 gn : gs ≠ nb
 ln : lb ≠ nb
 zl : w.heap.size ≤ lb
 zn : w.heap.size ≤ nb
 C : ∀ i x, (w0 :: r)[i]? = some x → w2.cell? ⟨gs, os + i, none⟩ = some (.string (strA x))
 G : Chg [] w w2
abbrev S17 (lb gs os n c k : Nat) (x : List UInt8) (w' : World) : Prop := w'.cell? ⟨lb, 0, none⟩ = some (.slice (some ⟨gs, os, none⟩) n c) ∧ w'.cell? ⟨gs, os + k, none⟩ = some (.string (strA x))
abbrev LI17 (r : List (List UInt8)) (w2 : World) (nb n : Nat) (i : Value) (wr : World) : Prop := ∃ (k : Nat) (ns : List Int) (v : Value), 1 ≤ k ∧ k ≤ n ∧ i = .int .i64 k ∧ Hid ((r.take (k - 1)).mapM numL = some ns) ∧ Hid (∀ y ∈ ns, I64 y) ∧ Hid (ns.length = k - 1) ∧ Blk wr nb #[v] 72 ∧ wr.ownsRow w2.heap.size 3 1 v ns.length (ns.map (.int .i64)) ∧ Chg [nb] w2 wr
theorem isf {w0 W : List UInt8} {t : ByteArray} {many : Int} {q mN : Nat} (h : ¬ (w0 = W ∧ q = mN)) (ht : t.toList = W := by exact strA_toL _) (hm : many = (mN : Int) := by rfl) : ((w0 == t.toList) && ((q : Int) == many)) = false :=
 isb_false (fun hh => h ⟨hh.1.trans ht, by have := hh.2; omega⟩)
theorem isg {w0 V W : List UInt8} {t : ByteArray} {many : Int} {q : Nat} (ew : w0 = V) (hne : ¬ V = W := by decide) (ht : t.toList = W := by exact strA_toL _) : ((w0 == t.toList) && ((q : Int) == many)) = false :=
 isb_false (fun hh => hne (ew.symm.trans (hh.1.trans ht)))
structure Ln1 (w wr : World) (lb nb gs os n c : Nat) (w0 : List UInt8) (ns : List Int) (av : Option Addr) (cv : Nat) : Prop where
 L : wr.cell? ⟨lb, 0, none⟩ = some (.slice (some ⟨gs, os, none⟩) n c)
 c0 : wr.cell? ⟨gs, os, none⟩ = some (.string (strA w0))
 V : wr.cell? ⟨nb, 0, none⟩ = some (.slice av ns.length cv)
 nm : Nms wr av ns
 lb : lb < wr.heap.size
 nb : nb < wr.heap.size
 gs : gs < wr.heap.size
 n0 : 0 < n
 G : Chg [] w wr
theorem Ln1.chg {w wr w' : World} {lb nb gs os n c : Nat} {w0 : List UInt8} {ns : List Int} {av : Option Addr} {cv : Nat} (h : Ln1 w wr lb nb gs os n c w0 ns av cv) (k : Chg [] wr w') : Ln1 w w' lb nb gs os n c w0 ns av cv :=
 ⟨(k.cell' (p := ⟨lb, 0, none⟩) h.lb (by simp)).trans h.L, (k.cell' (p := ⟨gs, os, none⟩) h.gs (by simp)).trans h.c0, (k.cell' (p := ⟨nb, 0, none⟩) h.nb (by simp)).trans h.V, h.nm.chg k, Nat.lt_of_lt_of_le h.lb k.size, Nat.lt_of_lt_of_le h.nb k.size, Nat.lt_of_lt_of_le h.gs k.size, h.n0, h.G.trans k (by simp)⟩
theorem Ln1.is {w wr : World} {lb nb gs os n c : Nat} {w0 : List UInt8} {ns : List Int} {av : Option Addr} {cv : Nat} (h : Ln1 w wr lb nb gs os n c w0 ns av cv) {b : Bool} {t : ByteArray} {many : Int} (hb : Hid (((w0 == t.toList) && ((ns.length : Int) == many)) = b)) :
  Calls Tryz.prog 42 #[.string t, .int .i64 many, .pointer (some ⟨lb, 0, none⟩), .pointer (some ⟨nb, 0, none⟩)] wr fun e w' => e = .returned (.bool b) ∧ w' = wr := is_at hb h.n0 h.L h.c0 h.V
theorem wordsF_wordE : ∀ (l w : List UInt8), ∀ x ∈ wordsF w l, x.length ≤ w.length + l.length
 | [], w, x, hx => by
  unfold wordsF at hx
  split at hx
  ·cases hx
  ·simp at hx; subst hx; simp
 | c :: r, w, x, hx => by
  unfold wordsF at hx
  split at hx
  ·rcases List.mem_append.1 hx with hx | hx
   ·split at hx
    ·cases hx
    ·simp at hx; subst hx; simp
   ·have := wordsF_wordE r [] x hx
    simp at this ⊢
    omega
  ·have := wordsF_wordE r (w ++ [c]) x hx
   simp at this ⊢
   omega
set_option maxRecDepth 100000 in
set_option maxHeartbeats 8000000 in
theorem line_nil (W0 : World) (db : Nat) (m : Cm) (s : Gd) (told l : List UInt8) (w : World) (h : Dk7 W0 w db m s told) (hl : l.length ≤ 900000) (hv : Vars W0) (hw : wordsL l = []) :
  Calls Tryz.prog 19 #[.pointer (some ⟨db, 0, none⟩), .string (strA l)] w fun e w' => e = .returned (.tuple #[]) ∧ ∃ m', Dn7 W0 w db m w' (s, ([] : List UInt8)).1 (told ++ (s, ([] : List UInt8)).2) m' := by
 have HD := hide h
 have HV := hide (hv.chg h.c.ch)
 have zdb := h.lt
 clear h hv
 have HW := hide hw
 clear hw
 go_enter Tryz.func19, Tryz.ntmps19
 go_wp2_with fail
 refine (words_at l _ (by omega)).mono ?_
 rintro e w1 ⟨a, c, rfl, hc, hS, g1⟩
 rw [unhide HW]
 simp only [List.length_nil]
 clear hc hS
 go_wp2
 (try simp only [Exit.inBlock, Exit.then])
 refine bodyPost_ret (results_none rfl _ _ _) rfl ?_
 rw [List.append_nil]
 exact ⟨rfl, _, (unhide HD).quiet (g1.alloc _)⟩
set_option maxRecDepth 100000 in
set_option maxHeartbeats 8000000 in
theorem line_bad (W0 : World) (db : Nat) (m : Cm) (s : Gd) (told l : List UInt8) (w : World) (h : Dk7 W0 w db m s told) (hl : l.length ≤ 900000) (ht : told.length ≤ 900000000) (hv : Vars W0) (w0 : List UInt8) (r : List (List UInt8)) (hw : wordsL l = w0 :: r) (hne : ¬ w0 = wTear) (hm : r.mapM numL = none) :
  Calls Tryz.prog 19 #[.pointer (some ⟨db, 0, none⟩), .string (strA l)] w fun e w' => e = .returned (.tuple #[]) ∧ ∃ m', Dn7 W0 w db m w' (s, sayL wWhat).1 (told ++ (s, sayL wWhat).2) m' := by
 have HD := hide h
 have HV := hide (hv.chg h.c.ch)
 have zdb := h.lt
 clear h hv
 have HMR := hide hm
 have HB := hide (rfl : (s, sayL wWhat) = (s, sayL wWhat))
 clear hm
 have HW := hide hw
 have HWL := hide (show ∀ x ∈ w0 :: r, x.length ≤ 1000000 from fun x hx => by have := wordsF_wordE l [] x (by rw [← hw] at hx; exact hx); simp at this; omega)
 have hn6 : (w0 :: r).length ≤ 900001 := by rw [← hw]; exact Nat.le_trans (wordsF_len l []) (by omega)
 have ctear := neqw (l := [116, 101, 97, 114]) hne
 clear hne hw
 go_enter Tryz.func19, Tryz.ntmps19
 go_wp2_with fail
 refine (words_at l _ (by omega)).mono ?_
 rintro e w1 ⟨a, c, rfl, hc, hS, g1⟩
 rw [unhide HW] at hc hS ⊢
 obtain ⟨n, hn⟩ : ∃ n, n = (w0 :: r).length := ⟨_, rfl⟩
 rw [← hn] at hc hn6 ⊢
 have HN := hide hn
 have hn1 : 1 ≤ n := by rw [hn]; simp
 clear hn
 rcases hS with h0 | ⟨gs, os, rfl, hgs, hcell⟩
 ·cases h0
 have p0 : w1.cell? ⟨gs, os, none⟩ = some (.string (strA w0)) := hcell 0 w0 rfl
 have HCELL := hide hcell
 clear hcell
 have n0 : ((n : Int) == 0) = false := by simp; omega
 have n0' : (0 : Int) < (n : Int) := by omega
 have n0'' : 0 < n := by omega
 go_wp2_with fail
 clear ctear p0 n0 n0' n0''
 have k2 : Chg [] w1 ((w1.alloc (.cells #[.slice (some ⟨gs, os, none⟩) n c] 22)).alloc (.cells #[.slice none 0 0] 72)) := ((Chg.refl [] w1).alloc _).alloc _
 have L0 : Ln0 w ((w1.alloc (.cells #[.slice (some ⟨gs, os, none⟩) n c] 22)).alloc (.cells #[.slice none 0 0] 72)) w1.heap.size (w1.heap.size + 1) gs os n c w0 r := ⟨(Blk.new w1 _ _).alloc _, Blk.new1 w1 _ _ _, unhide HN, by simp; omega, by omega, by omega, by omega, g1.size, by have := g1.size; omega, fun i x hx => (k2.cell' (p := ⟨gs, os + i, none⟩) hgs (by simp)).trans (unhide HCELL i x hx), g1.trans k2 (by simp)⟩
 clear g1 k2 HCELL hgs
 generalize (w1.alloc (.cells #[.slice (some ⟨gs, os, none⟩) n c] 22)).alloc (.cells #[.slice none 0 0] 72) = w2 at *
 obtain ⟨lb, hlb⟩ : ∃ lb, lb = w1.heap.size := ⟨_, rfl⟩
 obtain ⟨nb, hnb⟩ : ∃ nb, nb = w1.heap.size + 1 := ⟨_, rfl⟩
 rw [← hnb] at L0 ⊢
 rw [← hlb] at L0 ⊢
 have HL0 := hide L0
 clear L0
 clear hlb hnb
 obtain ⟨i0, hi, hz0, hz1, hz2⟩ := kInfoParts intInfoC
 obtain ⟨B2, N2, -, hg, gl, gn, ln, zl, zn, -, -⟩ := unhide HL0
 go_loopw [10] (fun i wr => LI17 r w2 nb n i wr) (fun i _ => n - (intOf i).toNat)
 case atStart => exact ⟨1, [], _, by omega, hn1, rfl, hide rfl, hide (by simp), hide rfl, N2, World.ownsRow_nil _ _ _ _, Chg.refl _ _⟩
 case round =>
  have lnb2 := N2.lt
  clear N2
  obtain ⟨k, ns, v, hk1, hkn, rfl, HM, HI, HNL, BN, hown, hG⟩ := hrel
  have hnbd : ns.length ≤ 1000001 := by have := unhide HNL; omega
  have BL := B2.chg hG (by simp; exact ln)
  have lL : wr.cell? ⟨lb, 0, none⟩ = some (.slice (some ⟨gs, os, none⟩) n c) := BL.cell 0
  have llb := BL.lt
  have lnb := BN.lt
  have zG := hG.size
  have Gw : Chg [] w wr := (unhide HL0).G.trans hG (by intro x hx; simp at hx; subst hx; exact .inr zn)
  have lgs : gs < wr.heap.size := by omega
  by_cases hlt : k < n
  ·have hki : (k : Int) < (n : Int) := by omega
   have hk0 : (0 : Int) ≤ (k : Int) := by omega
   obtain ⟨x, hx⟩ : ∃ x, (w0 :: r)[k]? = some x := ⟨_, List.getElem?_eq_getElem (by rw [← unhide HN]; exact hlt)⟩
   have hxr : r[k - 1]? = some x := by obtain ⟨q, rfl⟩ : ∃ q, k = q + 1 := ⟨k - 1, by omega⟩; simpa using hx
   have cx : wr.cell? ⟨gs, os + k, none⟩ = some (.string (strA x)) := by rw [hG.cell' (p := ⟨gs, os + k, none⟩) hg (by simp; exact gn)]; exact (unhide HL0).C k x hx
   have hxl : x.length ≤ 1000000 := unhide HWL x (List.mem_of_getElem? hx)
   have HX := hide hxr
   clear hx hxr
   go_wp2_with fail
   refine (atoi_any x _ (by omega) ((unhide HV).chg Gw)).mono ?_
   rintro e w3 ⟨v3, ev, rfl, g3, hres⟩
   have Gw3 := Gw.trans g3 (by simp)
   have HV3 := hide ((unhide HV).chg Gw3)
   have BL3 := BL.chg g3 (by simp)
   have BN3 := BN.chg g3 (by simp)
   have own3 := own_chg hown g3
   have G3 := hG.trans (g3.wide (cs := [nb]) (by simp)) (fun y hy => .inl hy)
   have cx3 : w3.cell? ⟨gs, os + k, none⟩ = some (.string (strA x)) := by rw [g3.cell' lgs (by simp)]; exact cx
   have lgs3 := Nat.lt_of_lt_of_le lgs g3.size
   clear lL cx BL BN hown g3 Gw hG
   have hS0 : S17 lb gs os n c k x w3.drew := ⟨BL3.cell 0, cx3⟩
   have HSN := hide (show ∀ w', Chg [] w3.drew w' → S17 lb gs os n c k x w' from fun w' g => ⟨by rw [g.cell' (p := ⟨lb, 0, none⟩) BL3.lt (by simp)]; exact hS0.1, by rw [g.cell' (p := ⟨gs, os + k, none⟩) lgs3 (by simp)]; exact hS0.2⟩)
   have HVd := hide ((unhide HV3).chg ((Chg.refl [] w3).drew))
   rcases hres with ⟨hat, rfl⟩ | ⟨hat, t, p, rfl⟩
   ·have hv64 := atoi_bd hat
    by_cases hit : Lib.itoa v3 = x
    ·have hcmp : ((strA (Lib.itoa v3)).toList == (strA x).toList) = true := by rw [strA_toL, strA_toL, hit]; simp
     have HNUM := hide (numL_some hat hit)
     clear hat hit
     go_wp2_with fail
     refine wp_region_noPanic ?_
     refine wp_region_held_drew (S := (fun w' => S17 lb gs os n c k x w')) (by kernel_rfl) hS0 (fun hH => ?_)
     refine tk 0 rfl hH ?_
     walk_nrm
     refine tk (v := .bool false) 1 rfl hH ?_ (hz := by intro W' hSw; (try dsimp only at hSw); go_simp; (try simp); try with_reducible rfl)
     walk_nrm
     refine tk 2 rfl hH ?_
     walk_nrm
     refine tk 3 rfl hH ?_
     walk_nrm
     refine tk 5 rfl hH ?_
     walk_nrm
     refine tk 6 rfl hH ?_
     walk_nrm
     refine tk 7 rfl hH ?_
     walk_nrm
     refine tk 8 rfl hH ?_
     walk_nrm
     refine rd 4 rfl (fun K hK => ?_)
     go_simp
     refine (num_any v3 _ hv64 (unhide HVd)).mono ?_
     rintro e w6 ⟨rfl, g6⟩
     refine hK.out _ _ (unhide HSN w6 g6) (fun hH2 => ?_)
     clear hK K hH
     have hH := hH2
     clear hH2
     walk_nrm
     refine tk (v := .bool false) 9 rfl hH ?_ (hz := by intro W' hSw; (try dsimp only at hSw); go_simp; (try simp [hcmp]); try with_reducible rfl)
     walk_nrm
     refine tk 10 rfl hH ?_
     walk_nrm
     refine wpAnyH_done (by kernel_rfl) ?_ _
     refine NoPanic.normal ?_
     clear hH
     have GV6 := Gw3.drew.trans g6 (by simp)
     have BN6 := Blk.chg (show Blk w3.drew nb #[v] 72 from BN3) g6 (by simp)
     have own6 := own_chg (show w3.drew.ownsRow _ _ _ _ _ _ from own3) g6
     have G6 := (G3.drew).trans (g6.wide (cs := [nb]) (by simp)) (fun y hy => .inl hy)
     have cv6 : w6.cell? ⟨nb, 0, none⟩ = some v := BN6.cell 0
     have lb6 := BN6.lt
     have HCH := hide (mapM_snoc (unhide HM) (unhide HNUM))
     have HTK := hide (show r.take (k - 1) ++ [x] = r.take (k + 1 - 1) by rw [show k + 1 - 1 = (k - 1) + 1 by omega, List.take_add_one, unhide HX]; rfl)
     have hI := unhide HI
     have HI2 := hide (show ∀ y ∈ ns ++ [v3], I64 y from fun y hy => by rcases List.mem_append.1 hy with hy | hy; exact hI y hy; simp at hy; subst hy; exact hv64)
     clear hI BN3 own3 G3 g6 hS0
     go_wp2_with (at_builtin; refine wpList_append_own _ rfl (.tmp 86) (.tmp 88) 72 rfl w2.heap.size 3 i0 _ 1 8 Tryz.underlying72 hi hz0 hz1 hz2 rfl (by decide) v ns.length (ns.map (.int .i64)) rfl (own6.alloc _) ⟨w6.heap.size, 0, none⟩ 1 1 [.int .i64 v3] rfl rfl (Blk.new w6 #[.int .i64 v3] _).news (by simp [Value.oneCell']) (by unfold maxLen; omega) (by omega) (by have := G6.size; simp; omega) ?_; intro v7 w7 own7 gr7 _; obtain ⟨g7, cc7, rfl, -, -, -⟩ := own_shape own7 (by omega); have nb7 : v.ownBlock ≠ some nb := (fun e => by have := (own6.lt _ e).1; omega); have BN7 : Blk w7 nb #[v] 72 := grown_heap gr7 (BN6.alloc _) nb7; have cv7 : w7.cell? ⟨nb, 0, none⟩ = some v := BN7.cell 0; have fz7 := BN7.fz 0; have lb7 := BN7.lt; have G7 := (G6.alloc _).grown gr7 (fun y hy => .inr (own6.lt y hy).1); clear gr7 cv6 BN6)
     have kS := (Chg.refl [nb] w7).setCell (p := ⟨nb, 0, none⟩) (by simp) (.slice (some ⟨g7, 0, none⟩) (ns.length + 1) cc7)
     have BN8 := BN7.set 0 (.slice (some ⟨g7, 0, none⟩) (ns.length + 1) cc7)
     have own8 := own_keep own7 kS (by intro y hy e; simp at hy; subst hy; have := (own7.lt _ e).1; omega)
     have G8 := G7.trans kS (fun y hy => .inl hy)
     clear own7 kS G7 own6 G6 BN7
     go_roundw
     case rel => exact ⟨k + 1, ns ++ [v3], _, by omega, by omega, by go_num, hide (by rw [← unhide HTK]; exact unhide HCH), HI2, hide (by rw [List.length_append, unhide HNL]; simp; omega), BN8, by rw [List.map_append, List.length_append]; exact own8, G8⟩
     case measure => go_light; simp [intOf]; omega
    ·have hcmp : ((strA (Lib.itoa v3)).toList == (strA x).toList) = false := by rw [strA_toL, strA_toL]; exact beq_false_of_ne hit
     clear hat hit
     go_wp2_with fail
     refine wp_region_noPanic ?_
     refine wp_region_held_drew (S := (fun w' => S17 lb gs os n c k x w')) (by kernel_rfl) hS0 (fun hH => ?_)
     refine tk 0 rfl hH ?_
     walk_nrm
     refine tk (v := .bool false) 1 rfl hH ?_ (hz := by intro W' hSw; (try dsimp only at hSw); go_simp; (try simp); try with_reducible rfl)
     walk_nrm
     refine tk 2 rfl hH ?_
     walk_nrm
     refine tk 3 rfl hH ?_
     walk_nrm
     refine tk 5 rfl hH ?_
     walk_nrm
     refine tk 6 rfl hH ?_
     walk_nrm
     refine tk 7 rfl hH ?_
     walk_nrm
     refine tk 8 rfl hH ?_
     walk_nrm
     refine rd 4 rfl (fun K hK => ?_)
     go_simp
     refine (num_any v3 _ hv64 (unhide HVd)).mono ?_
     rintro e w6 ⟨rfl, g6⟩
     refine hK.out _ _ (unhide HSN w6 g6) (fun hH2 => ?_)
     clear hK K hH
     have hH := hH2
     clear hH2
     walk_nrm
     refine tk (v := .bool true) 9 rfl hH ?_ (hz := by intro W' hSw; (try dsimp only at hSw); go_simp; (try simp [hcmp]); try with_reducible rfl)
     walk_nrm
     refine tk 10 rfl hH ?_
     walk_nrm
     refine wpAnyH_done (by kernel_rfl) ?_ _
     refine NoPanic.normal ?_
     clear hH
     go_wp2_with (go_at_call 39; refine (say_any db m.cb told wWhat _ (Blk.chg (unhide HD).d (Gw3.drew.trans g6 (by simp)) (by simp)) (by unfold wWhat; simp; omega)).mono ?_; rintro e wE ⟨rfl, dE, gE⟩)
     (try simp only [Exit.inBlock, Exit.then])
     refine bodyPost_ret (results_none rfl _ _ _) rfl ?_
     (try rw [unhide HB])
     exact ⟨rfl, _, (unhide HD).tells (Gw3.drew.trans g6 (by simp)) dE gE⟩
   ·clear hat
    go_wp2_with fail
    refine wp_region_noPanic ?_
    refine wp_region_held_drew (S := (fun w' => S17 lb gs os n c k x w')) (by kernel_rfl) hS0 (fun hH => ?_)
    refine tk 0 rfl hH ?_
    walk_nrm
    refine tk (v := .bool true) 1 rfl hH ?_ (hz := by intro W' hSw; (try dsimp only at hSw); go_simp; (try simp); try with_reducible rfl)
    walk_nrm
    refine tk 2 rfl hH ?_
    walk_nrm
    refine tn 3 rfl hH ?_
    walk_nrm
    refine tn 4 rfl hH ?_
    walk_nrm
    refine tn 5 rfl hH ?_
    walk_nrm
    refine tn 6 rfl hH ?_
    walk_nrm
    refine tn 7 rfl hH ?_
    walk_nrm
    refine tn 8 rfl hH ?_
    walk_nrm
    refine tn 9 rfl hH ?_
    walk_nrm
    refine tk 10 rfl hH ?_
    walk_nrm
    refine wpAnyH_done (by kernel_rfl) ?_ _
    refine NoPanic.normal ?_
    clear hH
    go_wp2_with (go_at_call 39; refine (say_any db m.cb told wWhat _ (Blk.chg (unhide HD).d (Gw3.drew) (by simp)) (by unfold wWhat; simp; omega)).mono ?_; rintro e wE ⟨rfl, dE, gE⟩)
    (try simp only [Exit.inBlock, Exit.then])
    refine bodyPost_ret (results_none rfl _ _ _) rfl ?_
    (try rw [unhide HB])
    exact ⟨rfl, _, (unhide HD).tells (Gw3.drew) dE gE⟩
  ·exfalso
   have hke : k = n := by omega
   have hrl : r.length = n - 1 := by have := unhide HN; simp at this; omega
   have h1 := unhide HM
   rw [hke, List.take_of_length_le (by omega), unhide HMR] at h1
   cases h1
theorem stepW_none {w : List UInt8} {ns : List Int} (h : stepW w ns false = none) : ¬ (w = wAdd ∧ ns.length = 2) ∧ ¬ (w = wTake ∧ ns.length = 3) ∧ ¬ (w = wRenew ∧ ns.length = 5) ∧ ¬ (w = wDone ∧ ns.length = 4) ∧ ¬ (w = wDrop ∧ ns.length = 4) ∧ ¬ (w = wOpen ∧ ns.length = 1) ∧ ¬ (w = wDown ∧ ns.length = 1) ∧ ¬ (w = wTick ∧ ns.length = 1) := by
 unfold stepW at h
 refine ⟨?_, ?_, ?_, ?_, ?_, ?_, ?_, ?_⟩ <;> (intro hh; simp [hh.1, hh.2, wAdd, wTake, wRenew, wDone, wDrop, wOpen, wDown, wTick] at h)
set_option maxRecDepth 100000 in
set_option maxHeartbeats 8000000 in
theorem line_none (W0 : World) (db : Nat) (m : Cm) (s : Gd) (told l : List UInt8) (w : World) (h : Dk7 W0 w db m s told) (hl : l.length ≤ 900000) (ht : told.length ≤ 900000000) (hv : Vars W0) (w0 : List UInt8) (r : List (List UInt8)) (hw : wordsL l = w0 :: r) (hne : ¬ w0 = wTear) (ms : List Int) (hm : r.mapM numL = some ms) (hs : stepW w0 ms false = none) (v8 : ¬ (w0 = wJob ∧ ms.length = 2)) (v9 : ¬ (w0 = wDisk ∧ ms.length = 0)) (v10 : ¬ (w0 = wLog ∧ ms.length = 0)) (v11 : ¬ (w0 = wHolders ∧ ms.length = 1)) :
  Calls Tryz.prog 19 #[.pointer (some ⟨db, 0, none⟩), .string (strA l)] w fun e w' => e = .returned (.tuple #[]) ∧ ∃ m', Dn7 W0 w db m w' (s, sayL wWhat).1 (told ++ (s, sayL wWhat).2) m' := by
 have HD := hide h
 have HV := hide (hv.chg h.c.ch)
 have zdb := h.lt
 clear h hv
 have HMR := hide hm
 clear hm
 have HW := hide hw
 have HWL := hide (show ∀ x ∈ w0 :: r, x.length ≤ 1000000 from fun x hx => by have := wordsF_wordE l [] x (by rw [← hw] at hx; exact hx); simp at this; omega)
 have hn6 : (w0 :: r).length ≤ 900001 := by rw [← hw]; exact Nat.le_trans (wordsF_len l []) (by omega)
 have ctear := neqw (l := [116, 101, 97, 114]) hne
 clear hne hw
 go_enter Tryz.func19, Tryz.ntmps19
 go_wp2_with fail
 refine (words_at l _ (by omega)).mono ?_
 rintro e w1 ⟨a, c, rfl, hc, hS, g1⟩
 rw [unhide HW] at hc hS ⊢
 obtain ⟨n, hn⟩ : ∃ n, n = (w0 :: r).length := ⟨_, rfl⟩
 rw [← hn] at hc hn6 ⊢
 have HN := hide hn
 have hn1 : 1 ≤ n := by rw [hn]; simp
 clear hn
 rcases hS with h0 | ⟨gs, os, rfl, hgs, hcell⟩
 ·cases h0
 have p0 : w1.cell? ⟨gs, os, none⟩ = some (.string (strA w0)) := hcell 0 w0 rfl
 have HCELL := hide hcell
 clear hcell
 have n0 : ((n : Int) == 0) = false := by simp; omega
 have n0' : (0 : Int) < (n : Int) := by omega
 have n0'' : 0 < n := by omega
 go_wp2_with fail
 clear ctear p0 n0 n0' n0''
 have k2 : Chg [] w1 ((w1.alloc (.cells #[.slice (some ⟨gs, os, none⟩) n c] 22)).alloc (.cells #[.slice none 0 0] 72)) := ((Chg.refl [] w1).alloc _).alloc _
 have L0 : Ln0 w ((w1.alloc (.cells #[.slice (some ⟨gs, os, none⟩) n c] 22)).alloc (.cells #[.slice none 0 0] 72)) w1.heap.size (w1.heap.size + 1) gs os n c w0 r := ⟨(Blk.new w1 _ _).alloc _, Blk.new1 w1 _ _ _, unhide HN, by simp; omega, by omega, by omega, by omega, g1.size, by have := g1.size; omega, fun i x hx => (k2.cell' (p := ⟨gs, os + i, none⟩) hgs (by simp)).trans (unhide HCELL i x hx), g1.trans k2 (by simp)⟩
 clear g1 k2 HCELL hgs
 generalize (w1.alloc (.cells #[.slice (some ⟨gs, os, none⟩) n c] 22)).alloc (.cells #[.slice none 0 0] 72) = w2 at *
 obtain ⟨lb, hlb⟩ : ∃ lb, lb = w1.heap.size := ⟨_, rfl⟩
 obtain ⟨nb, hnb⟩ : ∃ nb, nb = w1.heap.size + 1 := ⟨_, rfl⟩
 rw [← hnb] at L0 ⊢
 rw [← hlb] at L0 ⊢
 have HL0 := hide L0
 clear L0
 clear hlb hnb
 obtain ⟨i0, hi, hz0, hz1, hz2⟩ := kInfoParts intInfoC
 obtain ⟨B2, N2, -, hg, gl, gn, ln, zl, zn, -, -⟩ := unhide HL0
 go_loopw [10] (fun i wr => LI17 r w2 nb n i wr) (fun i _ => n - (intOf i).toNat)
 case atStart => exact ⟨1, [], _, by omega, hn1, rfl, hide rfl, hide (by simp), hide rfl, N2, World.ownsRow_nil _ _ _ _, Chg.refl _ _⟩
 case round =>
  have lnb2 := N2.lt
  clear N2
  obtain ⟨k, ns, v, hk1, hkn, rfl, HM, HI, HNL, BN, hown, hG⟩ := hrel
  have hnbd : ns.length ≤ 1000001 := by have := unhide HNL; omega
  have BL := B2.chg hG (by simp; exact ln)
  have lL : wr.cell? ⟨lb, 0, none⟩ = some (.slice (some ⟨gs, os, none⟩) n c) := BL.cell 0
  have llb := BL.lt
  have lnb := BN.lt
  have zG := hG.size
  have Gw : Chg [] w wr := (unhide HL0).G.trans hG (by intro x hx; simp at hx; subst hx; exact .inr zn)
  have lgs : gs < wr.heap.size := by omega
  by_cases hlt : k < n
  ·have hki : (k : Int) < (n : Int) := by omega
   have hk0 : (0 : Int) ≤ (k : Int) := by omega
   obtain ⟨x, hx⟩ : ∃ x, (w0 :: r)[k]? = some x := ⟨_, List.getElem?_eq_getElem (by rw [← unhide HN]; exact hlt)⟩
   have hxr : r[k - 1]? = some x := by obtain ⟨q, rfl⟩ : ∃ q, k = q + 1 := ⟨k - 1, by omega⟩; simpa using hx
   have cx : wr.cell? ⟨gs, os + k, none⟩ = some (.string (strA x)) := by rw [hG.cell' (p := ⟨gs, os + k, none⟩) hg (by simp; exact gn)]; exact (unhide HL0).C k x hx
   have hxl : x.length ≤ 1000000 := unhide HWL x (List.mem_of_getElem? hx)
   have HX := hide hxr
   clear hx hxr
   go_wp2_with fail
   refine (atoi_any x _ (by omega) ((unhide HV).chg Gw)).mono ?_
   rintro e w3 ⟨v3, ev, rfl, g3, hres⟩
   have Gw3 := Gw.trans g3 (by simp)
   have HV3 := hide ((unhide HV).chg Gw3)
   have BL3 := BL.chg g3 (by simp)
   have BN3 := BN.chg g3 (by simp)
   have own3 := own_chg hown g3
   have G3 := hG.trans (g3.wide (cs := [nb]) (by simp)) (fun y hy => .inl hy)
   have cx3 : w3.cell? ⟨gs, os + k, none⟩ = some (.string (strA x)) := by rw [g3.cell' lgs (by simp)]; exact cx
   have lgs3 := Nat.lt_of_lt_of_le lgs g3.size
   clear lL cx BL BN hown g3 Gw hG
   have hS0 : S17 lb gs os n c k x w3.drew := ⟨BL3.cell 0, cx3⟩
   have HSN := hide (show ∀ w', Chg [] w3.drew w' → S17 lb gs os n c k x w' from fun w' g => ⟨by rw [g.cell' (p := ⟨lb, 0, none⟩) BL3.lt (by simp)]; exact hS0.1, by rw [g.cell' (p := ⟨gs, os + k, none⟩) lgs3 (by simp)]; exact hS0.2⟩)
   have HVd := hide ((unhide HV3).chg ((Chg.refl [] w3).drew))
   rcases hres with ⟨hat, rfl⟩ | ⟨hat, t, p, rfl⟩
   ·have hv64 := atoi_bd hat
    by_cases hit : Lib.itoa v3 = x
    ·have hcmp : ((strA (Lib.itoa v3)).toList == (strA x).toList) = true := by rw [strA_toL, strA_toL, hit]; simp
     have HNUM := hide (numL_some hat hit)
     clear hat hit
     go_wp2_with fail
     refine wp_region_noPanic ?_
     refine wp_region_held_drew (S := (fun w' => S17 lb gs os n c k x w')) (by kernel_rfl) hS0 (fun hH => ?_)
     refine tk 0 rfl hH ?_
     walk_nrm
     refine tk (v := .bool false) 1 rfl hH ?_ (hz := by intro W' hSw; (try dsimp only at hSw); go_simp; (try simp); try with_reducible rfl)
     walk_nrm
     refine tk 2 rfl hH ?_
     walk_nrm
     refine tk 3 rfl hH ?_
     walk_nrm
     refine tk 5 rfl hH ?_
     walk_nrm
     refine tk 6 rfl hH ?_
     walk_nrm
     refine tk 7 rfl hH ?_
     walk_nrm
     refine tk 8 rfl hH ?_
     walk_nrm
     refine rd 4 rfl (fun K hK => ?_)
     go_simp
     refine (num_any v3 _ hv64 (unhide HVd)).mono ?_
     rintro e w6 ⟨rfl, g6⟩
     refine hK.out _ _ (unhide HSN w6 g6) (fun hH2 => ?_)
     clear hK K hH
     have hH := hH2
     clear hH2
     walk_nrm
     refine tk (v := .bool false) 9 rfl hH ?_ (hz := by intro W' hSw; (try dsimp only at hSw); go_simp; (try simp [hcmp]); try with_reducible rfl)
     walk_nrm
     refine tk 10 rfl hH ?_
     walk_nrm
     refine wpAnyH_done (by kernel_rfl) ?_ _
     refine NoPanic.normal ?_
     clear hH
     have GV6 := Gw3.drew.trans g6 (by simp)
     have BN6 := Blk.chg (show Blk w3.drew nb #[v] 72 from BN3) g6 (by simp)
     have own6 := own_chg (show w3.drew.ownsRow _ _ _ _ _ _ from own3) g6
     have G6 := (G3.drew).trans (g6.wide (cs := [nb]) (by simp)) (fun y hy => .inl hy)
     have cv6 : w6.cell? ⟨nb, 0, none⟩ = some v := BN6.cell 0
     have lb6 := BN6.lt
     have HCH := hide (mapM_snoc (unhide HM) (unhide HNUM))
     have HTK := hide (show r.take (k - 1) ++ [x] = r.take (k + 1 - 1) by rw [show k + 1 - 1 = (k - 1) + 1 by omega, List.take_add_one, unhide HX]; rfl)
     have hI := unhide HI
     have HI2 := hide (show ∀ y ∈ ns ++ [v3], I64 y from fun y hy => by rcases List.mem_append.1 hy with hy | hy; exact hI y hy; simp at hy; subst hy; exact hv64)
     clear hI BN3 own3 G3 g6 hS0
     go_wp2_with (at_builtin; refine wpList_append_own _ rfl (.tmp 86) (.tmp 88) 72 rfl w2.heap.size 3 i0 _ 1 8 Tryz.underlying72 hi hz0 hz1 hz2 rfl (by decide) v ns.length (ns.map (.int .i64)) rfl (own6.alloc _) ⟨w6.heap.size, 0, none⟩ 1 1 [.int .i64 v3] rfl rfl (Blk.new w6 #[.int .i64 v3] _).news (by simp [Value.oneCell']) (by unfold maxLen; omega) (by omega) (by have := G6.size; simp; omega) ?_; intro v7 w7 own7 gr7 _; obtain ⟨g7, cc7, rfl, -, -, -⟩ := own_shape own7 (by omega); have nb7 : v.ownBlock ≠ some nb := (fun e => by have := (own6.lt _ e).1; omega); have BN7 : Blk w7 nb #[v] 72 := grown_heap gr7 (BN6.alloc _) nb7; have cv7 : w7.cell? ⟨nb, 0, none⟩ = some v := BN7.cell 0; have fz7 := BN7.fz 0; have lb7 := BN7.lt; have G7 := (G6.alloc _).grown gr7 (fun y hy => .inr (own6.lt y hy).1); clear gr7 cv6 BN6)
     have kS := (Chg.refl [nb] w7).setCell (p := ⟨nb, 0, none⟩) (by simp) (.slice (some ⟨g7, 0, none⟩) (ns.length + 1) cc7)
     have BN8 := BN7.set 0 (.slice (some ⟨g7, 0, none⟩) (ns.length + 1) cc7)
     have own8 := own_keep own7 kS (by intro y hy e; simp at hy; subst hy; have := (own7.lt _ e).1; omega)
     have G8 := G7.trans kS (fun y hy => .inl hy)
     clear own7 kS G7 own6 G6 BN7
     go_roundw
     case rel => exact ⟨k + 1, ns ++ [v3], _, by omega, by omega, by go_num, hide (by rw [← unhide HTK]; exact unhide HCH), HI2, hide (by rw [List.length_append, unhide HNL]; simp; omega), BN8, by rw [List.map_append, List.length_append]; exact own8, G8⟩
     case measure => go_light; simp [intOf]; omega
    ·obtain ⟨v', -, hv'⟩ := mapM_each (unhide HMR) (unhide HX)
     rw [numL_long hat hit] at hv'
     cases hv'
   ·obtain ⟨v', -, hv'⟩ := mapM_each (unhide HMR) (unhide HX)
    rw [numL_none hat] at hv'
    cases hv'
  ·have hki : ¬ (k : Int) < (n : Int) := by omega
   have hke : k = n := by omega
   have hrl : r.length = n - 1 := by have := unhide HN; simp at this; omega
   have hns : ns = ms := by
    have h1 := unhide HM
    rw [hke, List.take_of_length_le (by omega), unhide HMR] at h1
    exact (Option.some.inj h1).symm
   subst hns
   obtain ⟨av, cv, rfl, hcv, hN⟩ := own_nmsD hown (unhide HI)
   have lN : wr.cell? ⟨nb, 0, none⟩ = some (.slice av ns.length cv) := BN.cell 0
   have HL1 := hide (show Ln1 w wr lb nb gs os n c w0 ns av cv from ⟨lL, (hG.cell' (p := ⟨gs, os, none⟩) hg (by simp; exact gn)).trans ((unhide HL0).C 0 w0 rfl), lN, hN, llb, lnb, lgs, by omega, Gw⟩)
   clear hke hrl HM HNL hown hG BN BL B2 HL0 HWL HW HN HI hcv hN Gw lN zG
   obtain ⟨n0, n1, n2, n3, n4, n5, n6, n7⟩ := stepW_none hs
   have B0 := hide (isf (t := ⟨#[97, 100, 100]⟩) (many := 2) (q := ns.length) n0)
   have B1 := hide (isf (t := ⟨#[116, 97, 107, 101]⟩) (many := 3) (q := ns.length) n1)
   have B2 := hide (isf (t := ⟨#[114, 101, 110, 101, 119]⟩) (many := 5) (q := ns.length) n2)
   have B3 := hide (isf (t := ⟨#[100, 111, 110, 101]⟩) (many := 4) (q := ns.length) n3)
   have B4 := hide (isf (t := ⟨#[100, 114, 111, 112]⟩) (many := 4) (q := ns.length) n4)
   have B5 := hide (isf (t := ⟨#[111, 112, 101, 110]⟩) (many := 1) (q := ns.length) n5)
   have B6 := hide (isf (t := ⟨#[100, 111, 119, 110]⟩) (many := 1) (q := ns.length) n6)
   have B7 := hide (isf (t := ⟨#[116, 105, 99, 107]⟩) (many := 1) (q := ns.length) n7)
   clear hs n0 n1 n2 n3 n4 n5 n6 n7
   have B8 := hide (isf (t := ⟨#[106, 111, 98]⟩) (many := 2) (q := ns.length) v8)
   have B9 := hide (isf (t := ⟨#[100, 105, 115, 107]⟩) (many := 0) (q := ns.length) v9)
   have B10 := hide (isf (t := ⟨#[108, 111, 103]⟩) (many := 0) (q := ns.length) v10)
   have B11 := hide (isf (t := ⟨#[104, 111, 108, 100, 101, 114, 115]⟩) (many := 1) (q := ns.length) v11)
   clear v8 v9 v10 v11
   go_upto_block 2 with fail
   have kA : Chg [] wr (wr.alloc (.cells #[.int .i64 0, .int .i64 0, .int .i64 0, .int .i64 0, .int .i64 0, .int .i64 0, .int .i64 0, .int .i64 0, .int .i64 0] 85)) := (Chg.refl [] wr).alloc _
   have HLA := hide ((unhide HL1).chg kA)
   have BX := Blk.new wr #[.int .i64 0, .int .i64 0, .int .i64 0, .int .i64 0, .int .i64 0, .int .i64 0, .int .i64 0, .int .i64 0, .int .i64 0] 85
   have zx : w.heap.size ≤ wr.heap.size := (unhide HL1).G.size
   clear HL1 kA lL
   generalize wr.alloc (.cells #[.int .i64 0, .int .i64 0, .int .i64 0, .int .i64 0, .int .i64 0, .int .i64 0, .int .i64 0, .int .i64 0, .int .i64 0] 85) = wa at *
   generalize wr.heap.size = xb at *
   have cx0 : wa.cell? ⟨xb, 0, none⟩ = some (.int .i64 0) := BX.cell 0
   have lx := BX.lt
   have HG := hide (unhide HLA).G
   go_wp2_with (first
    | (go_at_call 42; (first | with_reducible refine ((unhide HLA).is B0).mono ?_ | with_reducible refine ((unhide HLA).is B1).mono ?_ | with_reducible refine ((unhide HLA).is B2).mono ?_ | with_reducible refine ((unhide HLA).is B3).mono ?_ | with_reducible refine ((unhide HLA).is B4).mono ?_ | with_reducible refine ((unhide HLA).is B5).mono ?_ | with_reducible refine ((unhide HLA).is B6).mono ?_ | with_reducible refine ((unhide HLA).is B7).mono ?_ | with_reducible refine ((unhide HLA).is B8).mono ?_ | with_reducible refine ((unhide HLA).is B9).mono ?_ | with_reducible refine ((unhide HLA).is B10).mono ?_ | with_reducible refine ((unhide HLA).is B11).mono ?_); rintro e w' ⟨rfl, hw'⟩; subst w')
    | (go_at_call 39; refine (say_any db m.cb told wWhat _ (Blk.chg (unhide HD).d (unhide HG) (by simp)) (by unfold wWhat; simp; omega)).mono ?_; rintro e wE ⟨rfl, dE, gE⟩))
   refine bodyPost_end (results_none rfl _ _ _) rfl ?_
   exact ⟨rfl, _, (unhide HD).tells (unhide HG) dE gE⟩
section
variable {W0 w w1 w2 : World} {db : Nat} {m m1 m2 : Cm} {s s1 s2 : Gd} {told t1 t2 : List UInt8}
theorem Dn7.size (X : Dn7 W0 w db m w1 s1 t1 m1) : w.heap.size ≤ w1.heap.size := by
 obtain ⟨bs, c, -⟩ := X.ch
 exact c.size
theorem Dn7.trans (X : Dn7 W0 w db m w1 s1 t1 m1) (Y : Dn7 W0 w1 db m1 w2 s2 t2 m2) : Dn7 W0 w db m w2 s2 t2 m2 := by
 have z1 := X.size
 obtain ⟨bs, c, hb⟩ := X.ch
 obtain ⟨cs, d, hd⟩ := Y.ch
 refine ⟨Y.k, Y.cb.trans X.cb, fun x hx e => Y.ow x (Nat.lt_of_lt_of_le hx z1) (X.ow x hx e), bs ++ cs.filter (fun x => decide (x < w.heap.size)), ?_, fun x hx => ?_⟩
 ·refine (c.wide (fun x hx => List.mem_append_left _ hx)).trans d (fun x hx => ?_)
  by_cases h : x < w.heap.size
  ·exact .inl (List.mem_append_right _ (List.mem_filter.2 ⟨hx, by simpa using h⟩))
  ·exact .inr (by omega)
 ·rcases List.mem_append.1 hx with hx | hx
  ·exact hb x hx
  ·obtain ⟨hx, hl⟩ := List.mem_filter.1 hx
   have hl : x < w.heap.size := by simpa using hl
   refine ⟨?_, hl⟩
   rcases (hd x hx).1 with h | h
   ·exact .inl (fun e => h (X.ow x hl e))
   ·exact .inr h
theorem Dn7.wrote (X : Dn7 W0 w db m w1 s1 t1 m1) {b : Nat} (k : Chg [b] w1 w2) (hb : m1.own b = 100) (hn : b ≠ db) (hz : w.heap.size ≤ b) (hW : W0.heap.size ≤ w.heap.size) : Dn7 W0 w db m w2 s1 t1 m1 := by
 obtain ⟨bs, c, h⟩ := X.ch
 exact ⟨⟨Blk.chg X.k.d k (by simp; exact fun e => hn e.symm), X.k.c.keep k (by intro x hx; simp at hx; subst hx; exact ⟨hb, by omega⟩), X.k.o, X.k.b⟩, X.cb, X.ow, bs, c.trans k (by intro x hx; simp at hx; subst hx; exact .inr hz), h⟩
theorem Dk7.step (h : Dk7 W0 w db m s told) (X : Cnx W0 w m w2 m2 s2) : Dn7 W0 w db m w2 s2 told m2 := by
 obtain ⟨bs, c, hb⟩ := X.ch
 exact ⟨⟨by rw [X.cb]; exact Cnx.blk X h.d h.o, X.c, X.ow db h.lt h.o, h.b⟩, X.cb, X.ow, bs, c, fun x hx => ⟨.inl (hb x hx).1, (hb x hx).2⟩⟩
theorem Dn7.tells {w' : World} {told' : List UInt8} (X : Dn7 W0 w db m w1 s1 t1 m1) (k : Chg [] w1 w2) (d : Dsk7 w' db m.cb told') (g : Chg [db] w2 w') : Dn7 W0 w db m w' s1 told' { m1 with own := grw w1.heap.size m1.own (fun _ => 100) } :=
 X.trans (X.k.tells k (by rw [X.cb]; exact d) g)
end
theorem lnn1 {l : List Int} (h : l.length = 1) : ∃ a, l = [a] := by
 match l, h with
 | [a], _ => exact ⟨a, rfl⟩
theorem lnn2 {l : List Int} (h : l.length = 2) : ∃ a b, l = [a, b] := by
 match l, h with
 | [a, b], _ => exact ⟨a, b, rfl⟩
theorem lnn3 {l : List Int} (h : l.length = 3) : ∃ a b c, l = [a, b, c] := by
 match l, h with
 | [a, b, c], _ => exact ⟨a, b, c, rfl⟩
theorem lnn4 {l : List Int} (h : l.length = 4) : ∃ a b c d, l = [a, b, c, d] := by
 match l, h with
 | [a, b, c, d], _ => exact ⟨a, b, c, d, rfl⟩
theorem lnn5 {l : List Int} (h : l.length = 5) : ∃ a b c d e, l = [a, b, c, d, e] := by
 match l, h with
 | [a, b, c, d, e], _ => exact ⟨a, b, c, d, e, rfl⟩
theorem stepW_some {w : List UInt8} {ns : List Int} {x : Sp} {tear : Bool} (h : stepW w ns tear = some x) :
  (w = wAdd ∧ ∃ a b, ns = [a, b] ∧ x = ⟨2, a, 0, ⟨1, 0, b, 0, 0, 0⟩⟩) ∨
  (w = wTake ∧ ∃ a b c, ns = [a, b, c] ∧ x = ⟨2, a, 0, ⟨2, 0, 0, 0, b, c⟩⟩) ∨
  (w = wRenew ∧ ∃ a b c d e, ns = [a, b, c, d, e] ∧ x = ⟨2, a, 0, ⟨3, 0, b, c, d, e⟩⟩) ∨
  (w = wDone ∧ ∃ a b c d, ns = [a, b, c, d] ∧ x = ⟨2, a, 0, ⟨4, 0, b, c, d, 0⟩⟩) ∨
  (w = wDrop ∧ ∃ a b c d, ns = [a, b, c, d] ∧ x = ⟨2, a, 0, ⟨5, 0, b, c, d, 0⟩⟩) ∨
  (w = wOpen ∧ tear = false ∧ ∃ a, ns = [a] ∧ x = ⟨1, a, 0, ⟨0, 0, 0, 0, 0, 0⟩⟩) ∨
  (w = wDown ∧ tear = false ∧ ∃ a, ns = [a] ∧ x = ⟨4, a, 0, ⟨0, 0, 0, 0, 0, 0⟩⟩) ∨
  (w = wTick ∧ tear = false ∧ ∃ a, ns = [a] ∧ x = ⟨5, a, 0, ⟨0, 0, 0, 0, 0, 0⟩⟩) := by
 unfold stepW at h
 split at h
 ·rename_i hh
  obtain ⟨a, b, rfl⟩ := lnn2 hh.2
  exact .inl ⟨hh.1, a, b, rfl, (Option.some.inj h).symm⟩
 split at h
 ·rename_i hh
  obtain ⟨a, b, c, rfl⟩ := lnn3 hh.2
  exact .inr (.inl ⟨hh.1, a, b, c, rfl, (Option.some.inj h).symm⟩)
 split at h
 ·rename_i hh
  obtain ⟨a, b, c, d, e, rfl⟩ := lnn5 hh.2
  exact .inr (.inr (.inl ⟨hh.1, a, b, c, d, e, rfl, (Option.some.inj h).symm⟩))
 split at h
 ·rename_i hh
  obtain ⟨a, b, c, d, rfl⟩ := lnn4 hh.2
  exact .inr (.inr (.inr (.inl ⟨hh.1, a, b, c, d, rfl, (Option.some.inj h).symm⟩)))
 split at h
 ·rename_i hh
  obtain ⟨a, b, c, d, rfl⟩ := lnn4 hh.2
  exact .inr (.inr (.inr (.inr (.inl ⟨hh.1, a, b, c, d, rfl, (Option.some.inj h).symm⟩))))
 split at h
 ·rename_i hh
  obtain ⟨a, rfl⟩ := lnn1 hh.2.1
  exact .inr (.inr (.inr (.inr (.inr (.inl ⟨hh.1, hh.2.2, a, rfl, (Option.some.inj h).symm⟩)))))
 split at h
 ·rename_i hh
  obtain ⟨a, rfl⟩ := lnn1 hh.2.1
  exact .inr (.inr (.inr (.inr (.inr (.inr (.inl ⟨hh.1, hh.2.2, a, rfl, (Option.some.inj h).symm⟩))))))
 split at h
 ·rename_i hh
  obtain ⟨a, rfl⟩ := lnn1 hh.2.1
  exact .inr (.inr (.inr (.inr (.inr (.inr (.inr ⟨hh.1, hh.2.2, a, rfl, (Option.some.inj h).symm⟩))))))
 ·cases h
theorem stepW_head {w : List UInt8} {ns : List Int} {x : Sp} {tear : Bool} (h : stepW w ns tear = some x) : ¬ x.k = 0 ∧ x.keep = 0 ∧ ∃ r, ns = x.n :: r := by
 rcases stepW_some h with ⟨-, a, b, rfl, rfl⟩ | ⟨-, a, b, c, rfl, rfl⟩ | ⟨-, a, b, c, d, e, rfl, rfl⟩ | ⟨-, a, b, c, d, rfl, rfl⟩ | ⟨-, a, b, c, d, rfl, rfl⟩ | ⟨-, -, a, rfl, rfl⟩ | ⟨-, -, a, rfl, rfl⟩ | ⟨-, -, a, rfl, rfl⟩ <;> exact ⟨by simp, rfl, _, rfl⟩
end Go.Proofs.YtllnjiljjodfdacGreatDoor
