/-
 Small facts on slices of bytes. Nothing here is claimed by itself.
-/
import Derived.Lib.SlBytesConst
import Derived.Deep.RegionHeld3
import Derived.Test.YtllnjiljjodfdacGreatDoorQgK1
namespace Go.Proofs.YtllnjiljjodfdacGreatDoor
open Go.RowKit

theorem sl_slice {w : World} {v : Value} {l : List Int} (h : Sl w v l) : ∃ a c, v = .slice a l.length c := by
 rcases h with ⟨rfl, rfl⟩ | ⟨p, c, rfl, _⟩
 ·exact ⟨none, 0, rfl⟩
 ·exact ⟨_, c, rfl⟩
theorem Dsk.drew {ty e8 : TypeId} {w : World} {base b : Nat} {ep : Int} {v : Value} {l : List Int} (h : Dsk ty e8 w base b ep v l) : Dsk ty e8 w.drew base b ep v l :=
 h.chg ((Chg.refl [] w).drew) (by simp)
theorem fen_self {ep : Int} (h : 1 ≤ ep) : fenB ep ep = false := by simp [fenB]; omega
theorem dapp_yes (b : Nat) (ep : Int) (v : Value) (l : List Int) (base : Nat) (vx : Value) (x : List Int) (w : World) (h : Dsk 115 5 w base b ep v l) (h1 : 1 ≤ ep) (hx : Sl w vx x) (hk : okB x) (hbase : base ≤ w.heap.size) (hn : l.length + x.length ≤ 1500) :
  Calls Tryz.prog 151 #[.pointer (some ⟨b, 0, none⟩), .int .i64 ep, vx] w fun e w' => e = .returned (.int .i64 0) ∧ ∃ v', Dsk 115 5 w' base b ep v' (l ++ x) ∧ Chg (fp b v) w w' ∧ Nxt w v v' := by
 have := dapp_any b ep v l base ep vx x w h hx hk hbase
 obtain ⟨e1, e2⟩ := ap_yes (fen_self h1) (l := l) (x := x) (by omega)
 rw [e1, e2] at this
 exact this
theorem draise_full (b : Nat) (v : Value) (l : List Int) (base : Nat) (w : World) (h : Dsk 115 5 w base b 100 v l) :
  Calls Tryz.prog 137 #[.pointer (some ⟨b, 0, none⟩)] w fun e w' => e = .returned (.tuple #[.int .i64 0, .int .i64 8]) ∧ Dsk 115 5 w' base b 100 v l ∧ Chg [b] w w' :=
 draise_any b 100 v l base w h (by omega) (by omega)
theorem draise_more (b : Nat) (ep : Int) (v : Value) (l : List Int) (base : Nat) (w : World) (h : Dsk 115 5 w base b ep v l) (h0 : 0 ≤ ep) (h1 : ¬ 100 ≤ ep) :
  Calls Tryz.prog 137 #[.pointer (some ⟨b, 0, none⟩)] w fun e w' => e = .returned (.tuple #[.int .i64 (ep + 1), .int .i64 0]) ∧ Dsk 115 5 w' base b (ep + 1) v l ∧ Chg [b] w w' := by
 have := draise_any b ep v l base w h h0 (by omega)
 obtain ⟨e1, e2, e3⟩ := rs_more h1
 rw [e1, e2, e3] at this
 exact this
theorem dapp_full (b : Nat) (ep : Int) (v : Value) (l : List Int) (base : Nat) (vx : Value) (x : List Int) (w : World) (h : Dsk 115 5 w base b ep v l) (h1 : 1 ≤ ep) (hx : Sl w vx x) (hk : okB x) (hbase : base ≤ w.heap.size) (hn : 1500 < l.length + x.length) :
  Calls Tryz.prog 151 #[.pointer (some ⟨b, 0, none⟩), .int .i64 ep, vx] w fun e w' => e = .returned (.int .i64 8) ∧ ∃ v', Dsk 115 5 w' base b ep v' l ∧ Chg (fp b v) w w' ∧ Nxt w v v' := by
 have := dapp_any b ep v l base ep vx x w h hx hk hbase
 obtain ⟨e1, e2⟩ := ap_full (fen_self h1) (l := l) (x := x) hn
 rw [e1, e2] at this
 exact this
theorem dcut_yes (b : Nat) (ep : Int) (v : Value) (l : List Int) (base : Nat) (m : Nat) (w : World) (h : Dsk 115 5 w base b ep v l) (h1 : 1 ≤ ep) (hm : m ≤ l.length) :
  Calls Tryz.prog 139 #[.pointer (some ⟨b, 0, none⟩), .int .i64 ep, .int .i64 (m : Int)] w fun e w' => e = .returned (.int .i64 0) ∧ ∃ v', Dsk 115 5 w' base b ep v' (l.take m) ∧ Chg (fp b v) w w' ∧ Nxt w v v' := by
 have := dcut_any b ep v l base ep m w h
 obtain ⟨e1, e2⟩ := ct_yes (fen_self h1) (l := l) (k := m) (by omega)
 rw [e1, e2, Int.toNat_natCast] at this
 exact this
theorem two_at0 (a b : Value) (r : Array Value) : (#[a, b] ++ r)[0]? = some a := by rw [Array.getElem?_append_left (by simp)]; rfl
theorem two_at1 (a b : Value) (r : Array Value) : (#[a, b] ++ r)[1]? = some b := by rw [Array.getElem?_append_left (by simp)]; rfl
theorem two_set0 (a b x : Value) (r : Array Value) : (#[a, b] ++ r).setIfInBounds 0 x = #[x, b] ++ r := by simp
theorem two_set1 (a b x : Value) (r : Array Value) : (#[a, b] ++ r).setIfInBounds 1 x = #[a, x] ++ r := by simp
structure Plt (ty : TypeId) (rest : Array Value) (w : World) (b : Nat) (ep : Int) (v : Value) (l : List Int) : Prop where
 blk : Blk w b (#[.int .i64 ep, v] ++ rest) ty
 sl : Sl w v l
 few : l.length ≤ 1500
 ok : okB l
 ne : v.ownBlock ≠ some b
 lt : ∀ g, v.ownBlock = some g → g < w.heap.size
theorem Plt.chg {ty : TypeId} {rest : Array Value} {w w' : World} {b : Nat} {ep : Int} {v : Value} {l : List Int} (h : Plt ty rest w b ep v l) {bs : List Nat} (k : Chg bs w w') (hb : ∀ x ∈ bs, x ∉ fp b v) : Plt ty rest w' b ep v l :=
 ⟨h.blk.chg k (fun hx => hb b hx (mem_fp.2 (.inl rfl))), h.sl.chg k (fun x hx hv => hb x hx (mem_fp.2 (.inr hv))), h.few, h.ok, h.ne, fun g hg => Nat.lt_of_lt_of_le (h.lt g hg) k.size⟩
theorem Plt.alloc {ty : TypeId} {rest : Array Value} {w : World} {b : Nat} {ep : Int} {v : Value} {l : List Int} (h : Plt ty rest w b ep v l) (o : Obj) : Plt ty rest (w.alloc o) b ep v l := h.chg ((Chg.refl [] w).alloc o) (by simp)
theorem Plt.drew {ty : TypeId} {rest : Array Value} {w : World} {b : Nat} {ep : Int} {v : Value} {l : List Int} (h : Plt ty rest w b ep v l) : Plt ty rest w.drew b ep v l := h.chg ((Chg.refl [] w).drew) (by simp)
theorem Plt.cells {ty : TypeId} {rest : Array Value} {w : World} {b : Nat} {ep : Int} {v : Value} {l : List Int} (h : Plt ty rest w b ep v l) : w.cell? ⟨b, 0, none⟩ = some (.int .i64 ep) ∧ w.cell? ⟨b, 1, none⟩ = some v ∧ b < w.heap.size ∧ w.frozen? ⟨b, 0, none⟩ = false ∧ w.frozen? ⟨b, 1, none⟩ = false :=
 ⟨(h.blk.cell 0).trans (two_at0 _ _ _), (h.blk.cell 1).trans (two_at1 _ _ _), h.blk.lt, h.blk.fz 0, h.blk.fz 1⟩
theorem Plt.fp_lt {ty : TypeId} {rest : Array Value} {w : World} {b : Nat} {ep : Int} {v : Value} {l : List Int} (h : Plt ty rest w b ep v l) : ∀ x ∈ fp b v, x < w.heap.size := fun x hx => (mem_fp.1 hx).elim (fun e => e ▸ h.blk.lt) (fun e => h.lt x e)
def Pnx (w : World) (v v' : Value) : Prop := ∀ g, v'.ownBlock = some g → v.ownBlock = some g ∨ w.heap.size ≤ g
theorem Pnx.same (w : World) (v : Value) : Pnx w v v := fun _ h => .inl h
theorem Nxt.pnx {w : World} {v v' : Value} (h : Nxt w v v') : Pnx w v v' := fun g hg => by
 rcases h with e | ⟨g', e, hg'⟩
 ·exact .inl (e ▸ hg)
 ·rw [e] at hg
  cases hg
  exact .inr hg'
def Apart (xs ys : List Nat) : Prop := ∀ x ∈ xs, x ∉ ys
theorem Apart.symm {xs ys : List Nat} (h : Apart xs ys) : Apart ys xs := fun x hx hy => h x hy hx
theorem Apart.step {w : World} {b : Nat} {v v' : Value} {ys : List Nat} (h : Apart (fp b v) ys) (hn : Pnx w v v') (hy : ∀ y ∈ ys, y < w.heap.size) : Apart (fp b v') ys := fun x hx hxy => by
 rcases mem_fp.1 hx with e | e
 ·exact h x (mem_fp.2 (.inl e)) hxy
 ·rcases hn x e with e1 | e1
  ·exact h x (mem_fp.2 (.inr e1)) hxy
  ·have := hy x hxy; omega
theorem praise_any {ty : TypeId} {rest : Array Value} (b : Nat) (ep : Int) (v : Value) (l : List Int) (w : World) (h : Plt ty rest w b ep v l) (h0 : 0 ≤ ep) (h1 : ep ≤ 100) :
  Calls Tryz.prog 90 #[.pointer (some ⟨b, 0, none⟩)] w fun e w' => e = .returned (.tuple #[.int .i64 (rsA ep), .int .i64 (rsC ep)]) ∧ Plt ty rest w' b (rsE ep) v l ∧ Chg [b] w w' := by
 obtain ⟨c0, c1, hl, f0, f1⟩ := h.cells
 by_cases hq : 100 ≤ ep
 ·obtain ⟨e1, e2, e3⟩ := rs_full hq
  rw [e1, e2, e3]
  clear e1 e2 e3
  have H := hide h
  clear h
  go_enter Tryz.func90, Tryz.ntmps90
  go_wp2
  go_ret2
  exact ⟨rfl, unhide H, Chg.refl _ _⟩
 ·obtain ⟨e1, e2, e3⟩ := rs_more hq
  rw [e1, e2, e3]
  clear e1 e2 e3
  have H := hide h
  clear h
  go_enter Tryz.func90, Tryz.ntmps90
  go_wp2
  go_ret2
  obtain ⟨hb, hs, hf, hk, hn, ht⟩ := unhide H
  exact ⟨rfl, ⟨two_set0 _ _ _ _ ▸ hb.set 0 _, hs.chg ((Chg.refl [b] w).setCell (p := ⟨b, 0, none⟩) (by simp) _) (by simpa using hn), hf, hk, hn, by simpa using ht⟩, (Chg.refl _ _).setCell (by simp) _⟩
theorem fen_parts {ep e0 : Int} (h : fenB ep e0 = true) : decide (e0 < 1) = true ∨ (decide (e0 < 1) = false ∧ (e0 != ep) = true) := by
 unfold fenB at h
 cases hd : decide (e0 < 1)
 ·rw [hd, Bool.false_or] at h
  exact .inr ⟨rfl, h⟩
 ·exact .inl rfl
theorem fen_not' {ep e0 : Int} (h : fenB ep e0 = false) : decide (e0 < 1) = false ∧ (e0 != ep) = false := by
 unfold fenB at h
 simpa using h
theorem Plt.onto {ty e8 : TypeId} {rest : Array Value} {w w2 w3 : World} {b : Nat} {ep : Int} {v v2 v3 : Value} {l x : List Int} (h : Plt ty rest w b ep v l) (hx : okB x) (hn : l.length + x.length ≤ 1500) (own2 : w2.ownsRow w.heap.size e8 1 v2 l.length (U8 l)) (gr2 : Chg [] w w2)
  (own3 : w3.ownsRow w.heap.size e8 1 v3 (l.length + x.length) (U8 l ++ U8 x)) (gr3 : w2.grownBy w3 v2.ownBlock) :
  Plt ty rest (w3.setCell ⟨b, 1, none⟩ v3) b ep v3 (l ++ x) ∧ Chg [b] w (w3.setCell ⟨b, 1, none⟩ v3) ∧ Pnx w v v3 := by
 have hl := h.blk.lt
 have hne : v3.ownBlock ≠ some b := fun e => by have := (own3.lt b e).1; omega
 have g3 : Chg [] w w3 := gr2.grew gr3 (fun k hk => .inr (own2.lt k hk).1)
 have own3' : w3.ownsRow w.heap.size e8 1 v3 (l ++ x).length (U8 (l ++ x)) := by rw [List.length_append, U8_app]; exact own3
 refine ⟨⟨two_set1 _ _ _ _ ▸ (h.blk.chg g3 (by simp)).set 1 v3, ?_, by simpa using hn, h.ok.app hx, hne, fun g hg => by simpa using (own3.lt g hg).2⟩, ?_, fun g hg => .inr (own3.lt g hg).1⟩
 ·exact (own_sl own3').chg ((Chg.refl [b] w3).setCell (p := ⟨b, 1, none⟩) (by simp) v3) (by simpa using hne)
 ·exact (g3.wide (cs := [b]) (by simp)).setCell (p := ⟨b, 1, none⟩) (by simp) _
set_option maxRecDepth 100000 in
set_option maxHeartbeats 4000000 in
theorem papp_any {ty : TypeId} {rest : Array Value} (b : Nat) (ep : Int) (v : Value) (l : List Int) (e0 : Int) (vx : Value) (x : List Int) (w : World) (h : Plt ty rest w b ep v l) (hx : Sl w vx x) (hk : okB x) (hxn : x.length ≤ 100000) :
  Calls Tryz.prog 96 #[.pointer (some ⟨b, 0, none⟩), .int .i64 e0, vx] w fun e w' => e = .returned (.int .i64 (apC ep l.length x.length e0)) ∧ ∃ v', Plt ty rest w' b ep v' (apL ep l x e0) ∧ Chg [b] w w' ∧ Pnx w v v' := by
 obtain ⟨i0, hi, hz0, hz1, hz2⟩ := kInfoParts ku8Info
 obtain ⟨c0, c1, hl, f0, f1⟩ := h.cells
 have hfew := h.few
 have H := hide h
 have hs := h.sl
 clear h
 by_cases hf : fenB ep e0 = true
 ·obtain ⟨e1, e2⟩ := ap_fen hf l x
  rw [e1, e2]
  clear e1 e2 hs hx
  rcases fen_parts hf with d1 | ⟨d1, d2⟩
  all_goals
   clear hf
   go_enter Tryz.func96, Tryz.ntmps96
   go_wp2
   go_ret
   exact ⟨rfl, v, unhide H, Chg.refl _ _, Pnx.same _ _⟩
 ·have hf' : fenB ep e0 = false := by simpa using hf
  obtain ⟨d1, d2⟩ := fen_not' hf'
  clear hf
  by_cases hn : 1500 < l.length + x.length
  ·obtain ⟨e1, e2⟩ := ap_full hf' hn
   rw [e1, e2]
   clear e1 e2 hf'
   have hd : decide ((1500 : Int) < (l.length : Int) + (x.length : Int)) = true := by simp; omega
   obtain ⟨av, cv, rfl⟩ := sl_slice hs
   obtain ⟨ax, cx, rfl⟩ := sl_slice hx
   clear hs hx
   go_enter Tryz.func96, Tryz.ntmps96
   go_wp2
   go_ret
   exact ⟨rfl, _, unhide H, Chg.refl _ _, Pnx.same _ _⟩
  ·obtain ⟨e1, e2⟩ := ap_yes hf' hn
   rw [e1, e2]
   clear e1 e2 hf'
   have hd : decide ((1500 : Int) < (l.length : Int) + (x.length : Int)) = false := by simp; omega
   rcases hs with ⟨rfl, rfl⟩ | ⟨p, c, rfl, hc, hs⟩
   ·have hd' : decide ((1500 : Int) < (x.length : Int)) = false := by simpa using hd
    rcases hx with ⟨rfl, rfl⟩ | ⟨px, cx, rfl, hcx, hx⟩
    ·go_enter Tryz.func96, Tryz.ntmps96
     go_wp2_with (first
      | (at_builtin; refine wpList_append_own_none rfl (.tmp 28) (.tmp 32) 42 rfl w.heap.size 5 i0 1 Tryz.underlying42 hi (.slice none 0 0) 0 [] rfl (World.ownsRow_nil _ _ _ _) rfl ?_)
      | (at_builtin; refine wpList_append_own_none rfl (.tmp 33) (.tmp 34) 42 rfl w.heap.size 5 i0 1 Tryz.underlying42 hi (.slice none 0 0) 0 [] rfl (World.ownsRow_nil _ _ _ _) rfl ?_))
     go_ret
     obtain ⟨r1, r2, r3⟩ := (unhide H).onto (e8 := 5) (v2 := .slice none 0 0) (v3 := .slice none 0 0) hk (by simp) (World.ownsRow_nil _ _ _ _) (Chg.refl _ _) (World.ownsRow_nil _ _ _ _) ⟨rfl, rfl, rfl, Nat.le_refl _, fun _ _ _ => rfl⟩
     exact ⟨rfl, _, r1, r2, r3⟩
    ·have hx' : ∀ j u, (U8 x)[j]? = some u → w.cell? (px.add j) = some u := fun j u hj => by
      obtain ⟨y, hy, rfl⟩ := U8_at hj
      exact hx j y hy
     have HX' := hide hx'
     clear hx hx'
     go_enter Tryz.func96, Tryz.ntmps96
     go_wp2_with (first
      | (at_builtin; refine wpList_append_own_none rfl (.tmp 28) (.tmp 32) 42 rfl w.heap.size 5 i0 1 Tryz.underlying42 hi (.slice none 0 0) 0 [] rfl (World.ownsRow_nil _ _ _ _) rfl ?_)
      | (at_builtin; refine wpList_append_own_at _ rfl (.tmp 33) (.tmp 34) 42 rfl w.heap.size 5 i0 (.int .u8 0) 1 1 Tryz.underlying42 hi hz0 hz1 hz2 rfl (by decide) (.slice none 0 0) 0 [] rfl (World.ownsRow_nil _ _ _ _) px x.length cx (U8 x) rfl (by rw [U8_len]; omega) (unhide HX') (U8_one x) (by unfold maxLen; omega) (by omega) (Nat.le_refl _) ?_; intro v3 w3 own3 gr3 _ _; obtain ⟨a3, n3, c3, rfl⟩ := own_slice own3; have B3 := (unhide H).blk.grew gr3 (by simp [Value.ownBlock]); have k0 : w3.cell? ⟨b, 1, none⟩ = some _ := (B3.cell 1).trans (two_at1 _ _ _); have k1 := B3.fz 1; have k2 := B3.lt; have OW := hide own3; have GR := hide gr3; clear own3 gr3 B3))
     go_ret
     obtain ⟨r1, r2, r3⟩ := (unhide H).onto (v2 := .slice none 0 0) hk (by simpa using hn) (World.ownsRow_nil _ _ _ _) (Chg.refl _ _) (unhide OW) (unhide GR)
     exact ⟨rfl, _, r1, r2, r3⟩
   ·have hs' : ∀ j u, (U8 l)[j]? = some u → w.cell? (p.add j) = some u := fun j u hj => by
     obtain ⟨y, hy, rfl⟩ := U8_at hj
     exact hs j y hy
    have HS' := hide hs'
    clear hs hs'
    rcases hx with ⟨rfl, rfl⟩ | ⟨px, cx, rfl, hcx, hx⟩
    ·go_enter Tryz.func96, Tryz.ntmps96
     go_wp2_with (first
      | (at_builtin; refine wpList_append_own_at _ rfl (.tmp 28) (.tmp 32) 42 rfl w.heap.size 5 i0 (.int .u8 0) 1 1 Tryz.underlying42 hi hz0 hz1 hz2 rfl (by decide) (.slice none 0 0) 0 [] rfl (World.ownsRow_nil _ _ _ _) p l.length c (U8 l) rfl (by rw [U8_len]; omega) (unhide HS') (U8_one l) (by unfold maxLen; omega) (by omega) (Nat.le_refl _) ?_; intro v2 w2 own2 gr2 _ _; simp only [Nat.zero_add, List.nil_append] at own2; obtain ⟨a2, n2, c2, rfl⟩ := own_slice own2; have B2 := (unhide H).blk.grew gr2 (by simp [Value.ownBlock]); have k0 : w2.cell? ⟨b, 1, none⟩ = some _ := (B2.cell 1).trans (two_at1 _ _ _); have k1 := B2.fz 1; have k2 := B2.lt; have OW := hide own2; have GR := hide gr2; clear own2 gr2 B2)
      | (at_builtin; refine wpList_append_own_none rfl (.tmp 33) (.tmp 34) 42 rfl w.heap.size 5 i0 1 Tryz.underlying42 hi (.slice a2 n2 c2) l.length (U8 l) rfl (unhide OW) rfl ?_))
     go_ret
     obtain ⟨r1, r2, r3⟩ := (unhide H).onto (x := []) (v3 := .slice a2 n2 c2) hk (by simpa using hfew) (unhide OW) ((Chg.refl [] _).grew (unhide GR) (by simp [Value.ownBlock])) (by simpa [U8] using unhide OW) ⟨rfl, rfl, rfl, Nat.le_refl _, fun _ _ _ => rfl⟩
     rw [List.append_nil] at r1
     try rw [List.append_nil]
     exact ⟨rfl, _, r1, r2, r3⟩
    ·have hx' : ∀ j u, (U8 x)[j]? = some u → w.cell? (px.add j) = some u := fun j u hj => by
      obtain ⟨y, hy, rfl⟩ := U8_at hj
      exact hx j y hy
     have HX' := hide hx'
     clear hx hx'
     go_enter Tryz.func96, Tryz.ntmps96
     go_wp2_with (first
      | (at_builtin; refine wpList_append_own_at _ rfl (.tmp 28) (.tmp 32) 42 rfl w.heap.size 5 i0 (.int .u8 0) 1 1 Tryz.underlying42 hi hz0 hz1 hz2 rfl (by decide) (.slice none 0 0) 0 [] rfl (World.ownsRow_nil _ _ _ _) p l.length c (U8 l) rfl (by rw [U8_len]; omega) (unhide HS') (U8_one l) (by unfold maxLen; omega) (by omega) (Nat.le_refl _) ?_; intro v2 w2 own2 gr2 _ _; simp only [Nat.zero_add, List.nil_append] at own2; obtain ⟨a2, n2, c2, rfl⟩ := own_slice own2; have OW := hide own2; have GR := hide gr2; clear own2 gr2)
      | (at_builtin; refine wpList_append_own_at _ rfl (.tmp 33) (.tmp 34) 42 rfl w.heap.size 5 i0 (.int .u8 0) 1 1 Tryz.underlying42 hi hz0 hz1 hz2 rfl (by decide) (.slice a2 n2 c2) l.length (U8 l) rfl (unhide OW) px x.length cx (U8 x) rfl (by rw [U8_len]; omega) ?hn (U8_one x) (by unfold maxLen; omega) (by omega) (unhide GR).size ?_; (case hn => exact fun j u hj => (unhide GR).cell (unhide HX' j u hj) (by simp [Value.ownBlock])); intro v3 w3 own3 gr3 _ _; obtain ⟨a3, n3, c3, rfl⟩ := own_slice own3; have B3 := ((unhide H).blk.grew (unhide GR) (by simp [Value.ownBlock])).grew gr3 (fun e => absurd ((unhide OW).lt b e).1 (by omega)); have k0 : w3.cell? ⟨b, 1, none⟩ = some _ := (B3.cell 1).trans (two_at1 _ _ _); have k1 := B3.fz 1; have k2 := B3.lt; have OW3 := hide own3; have GR3 := hide gr3; clear own3 gr3 B3))
     go_ret
     obtain ⟨r1, r2, r3⟩ := (unhide H).onto hk (by omega) (unhide OW) ((Chg.refl [] _).grew (unhide GR) (by simp [Value.ownBlock])) (unhide OW3) (unhide GR3)
     exact ⟨rfl, _, r1, r2, r3⟩
theorem Plt.cutTo {ty : TypeId} {rest : Array Value} {w : World} {b : Nat} {ep : Int} {v : Value} {l : List Int} (h : Plt ty rest w b ep v l) (v' : Value) (k : Nat) (hs : Sl w v' (l.take k)) (hat : v'.ownBlock = v.ownBlock) :
  Plt ty rest (w.setCell ⟨b, 1, none⟩ v') b ep v' (l.take k) ∧ Chg [b] w (w.setCell ⟨b, 1, none⟩ v') ∧ Pnx w v v' := by
 have hne : v'.ownBlock ≠ some b := by rw [hat]; exact h.ne
 refine ⟨⟨two_set1 _ _ _ _ ▸ h.blk.set 1 v', hs.chg ((Chg.refl [b] w).setCell (p := ⟨b, 1, none⟩) (by simp) v') (by simpa using hne), by have := h.few; rw [List.length_take]; omega, h.ok.take k, hne, fun g hg => by simpa using h.lt g (hat ▸ hg)⟩, ?_, fun g hg => .inl (hat ▸ hg)⟩
 exact (Chg.refl [b] w).setCell (p := ⟨b, 1, none⟩) (by simp) _
set_option maxRecDepth 100000 in
set_option maxHeartbeats 2000000 in
theorem pcut_any {ty : TypeId} {rest : Array Value} (b : Nat) (ep : Int) (v : Value) (l : List Int) (e0 k : Int) (w : World) (h : Plt ty rest w b ep v l) :
  Calls Tryz.prog 92 #[.pointer (some ⟨b, 0, none⟩), .int .i64 e0, .int .i64 k] w fun e w' => e = .returned (.int .i64 (ctC ep l.length e0 k)) ∧ ∃ v', Plt ty rest w' b ep v' (ctL ep l e0 k) ∧ Chg [b] w w' ∧ Pnx w v v' := by
 obtain ⟨c0, c1, hl, f0, f1⟩ := h.cells
 have hfew := h.few
 have H := hide h
 have hs := h.sl
 clear h
 by_cases hf : fenB ep e0 = true
 ·obtain ⟨e1, e2⟩ := ct_fen hf l k
  rw [e1, e2]
  clear e1 e2 hs
  rcases fen_parts hf with d1 | ⟨d1, d2⟩
  all_goals
   clear hf
   go_enter Tryz.func92, Tryz.ntmps92
   go_wp2
   go_ret
   exact ⟨rfl, v, unhide H, Chg.refl _ _, Pnx.same _ _⟩
 ·have hf' : fenB ep e0 = false := by simpa using hf
  obtain ⟨d1, d2⟩ := fen_not' hf'
  clear hf
  by_cases hk0 : k < 0
  ·obtain ⟨e1, e2⟩ := ct_range hf' (l := l) (.inl hk0)
   rw [e1, e2]
   clear e1 e2 hf' hs
   have g0 : decide (k < 0) = true := by simpa using hk0
   go_enter Tryz.func92, Tryz.ntmps92
   go_wp2
   go_ret
   exact ⟨rfl, v, unhide H, Chg.refl _ _, Pnx.same _ _⟩
  ·have g0 : decide (k < 0) = false := by simpa using hk0
   by_cases hkn : (l.length : Int) < k
   ·obtain ⟨e1, e2⟩ := ct_range hf' (l := l) (.inr hkn)
    rw [e1, e2]
    clear e1 e2 hf'
    have g1 : decide ((l.length : Int) < k) = true := by simpa using hkn
    obtain ⟨av, cv, rfl⟩ := sl_slice hs
    clear hs
    go_enter Tryz.func92, Tryz.ntmps92
    go_wp2
    go_ret
    exact ⟨rfl, _, unhide H, Chg.refl _ _, Pnx.same _ _⟩
   ·obtain ⟨e1, e2⟩ := ct_yes hf' (l := l) (k := k) (by omega)
    rw [e1, e2]
    clear e1 e2 hf'
    obtain ⟨m, rfl⟩ : ∃ m : Nat, k = m := ⟨k.toNat, by omega⟩
    rw [Int.toNat_natCast]
    have hm : m ≤ l.length := by omega
    have g1 : decide ((l.length : Int) < (m : Int)) = false := by simp; omega
    clear hk0 hkn
    rcases hs with ⟨rfl, rfl⟩ | ⟨p, c, rfl, hc, hs⟩
    ·obtain rfl : m = 0 := by simpa using hm
     go_enter Tryz.func92, Tryz.ntmps92
     go_wp2
     go_ret
     obtain ⟨r1, r2, r3⟩ := (unhide H).cutTo (.slice none 0 0) 0 (.inl ⟨rfl, rfl⟩) rfl
     exact ⟨rfl, _, r1, r2, r3⟩
    ·have hmc : (m : Int) ≤ (c : Int) := by omega
     have hm0 : (0 : Int) ≤ (m : Int) := by omega
     clear hs
     go_enter Tryz.func92, Tryz.ntmps92
     go_wp2
     go_ret
     obtain ⟨r1, r2, r3⟩ := (unhide H).cutTo (.slice (some p) m m) m ((unhide H).sl.take rfl hm m (Nat.le_refl _)) rfl
     exact ⟨rfl, _, r1, r2, r3⟩
end Go.Proofs.YtllnjiljjodfdacGreatDoor
