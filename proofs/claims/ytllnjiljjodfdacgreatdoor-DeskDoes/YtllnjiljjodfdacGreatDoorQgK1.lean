/-
 What each function of a disk does to it in memory. Nothing here is claimed by itself.
-/
import Derived.Maps.AppendAt
import Derived.Lib.SliceRun
import Derived.Test.YtllnjiljjodfdacGreatDoorQgBase
namespace Go.Proofs.YtllnjiljjodfdacGreatDoor
open Go.RowKit

theorem kInfoParts {t : TypeId} {z : Value} {s b : Nat} (h : (Tryz.prog.info? t).map (fun i => (i.zero, i.size, i.bytes)) = some (some z, s, b)) : ∃ i, Tryz.prog.info? t = some i ∧ i.zero = some z ∧ i.size = s ∧ i.bytes = b := by
 cases hq : Tryz.prog.info? t with
 | none => simp [hq] at h
 | some i =>
  simp [hq] at h
  exact ⟨i, rfl, h.1, h.2.1, h.2.2⟩
theorem ku8Info : (Tryz.prog.info? 5).map (fun i => (i.zero, i.size, i.bytes)) = some (some (.int .u8 0), 1, 1) := by kernel_rfl
theorem dnew_any (w : World) : Calls Tryz.prog 20 #[] w fun e w' => e = .returned (.pointer (some ⟨w.heap.size, 0, none⟩)) ∧ Dsk 115 5 w' w.heap.size w.heap.size 0 (.slice none 0 0) [] ∧ Chg [] w w' := by
 go_enter Tryz.func20, Tryz.ntmps20
 go_wp2
 go_ret
 exact ⟨rfl, ⟨Blk.new w _ _, World.ownsRow_nil _ _ _ _, by simp, okB_nil, by simp [Value.ownBlock]⟩, (Chg.refl _ _).alloc _⟩
theorem depoch_any (b : Nat) (ep : Int) (v : Value) (l : List Int) (base : Nat) (w : World) (h : Dsk 115 5 w base b ep v l) :
  Calls Tryz.prog 31 #[.pointer (some ⟨b, 0, none⟩)] w fun e w' => e = .returned (.int .i64 ep) ∧ w' = w := by
 obtain ⟨c0, c1, hl, f0, f1⟩ := h.cells
 clear h
 go_enter Tryz.func31, Tryz.ntmps31
 go_wp2
 go_ret
 exact ⟨rfl, rfl⟩
theorem dfen_any (b : Nat) (ep : Int) (v : Value) (l : List Int) (base : Nat) (e0 : Int) (w : World) (h : Dsk 115 5 w base b ep v l) :
  Calls Tryz.prog 149 #[.pointer (some ⟨b, 0, none⟩), .int .i64 e0] w fun e w' => e = .returned (.bool (fenB ep e0)) ∧ w' = w := by
 obtain ⟨c0, c1, hl, f0, f1⟩ := h.cells
 clear h
 have hv : fenB ep e0 = (decide (e0 < 1) || e0 != ep) := rfl
 rw [hv]
 clear hv
 by_cases h1 : e0 < 1
 ·have d1 : decide (e0 < 1) = true := by simpa using h1
  rw [d1, Bool.true_or]
  clear h1
  go_enter Tryz.func149, Tryz.ntmps149
  go_wp2
  go_ret
  exact ⟨rfl, rfl⟩
 ·have d1 : decide (e0 < 1) = false := by simpa using h1
  rw [d1, Bool.false_or]
  clear h1
  go_enter Tryz.func149, Tryz.ntmps149
  go_wp2
  go_ret
  exact ⟨rfl, rfl⟩
theorem draise_any (b : Nat) (ep : Int) (v : Value) (l : List Int) (base : Nat) (w : World) (h : Dsk 115 5 w base b ep v l) (h0 : 0 ≤ ep) (h1 : ep ≤ 100) :
  Calls Tryz.prog 137 #[.pointer (some ⟨b, 0, none⟩)] w fun e w' => e = .returned (.tuple #[.int .i64 (rsA ep), .int .i64 (rsC ep)]) ∧ Dsk 115 5 w' base b (rsE ep) v l ∧ Chg [b] w w' := by
 obtain ⟨c0, c1, hl, f0, f1⟩ := h.cells
 by_cases hq : 100 ≤ ep
 ·obtain ⟨e1, e2, e3⟩ := rs_full hq
  rw [e1, e2, e3]
  clear e1 e2 e3
  have H := hide h
  clear h
  go_enter Tryz.func137, Tryz.ntmps137
  go_wp2
  go_ret2
  exact ⟨rfl, unhide H, Chg.refl _ _⟩
 ·obtain ⟨e1, e2, e3⟩ := rs_more hq
  rw [e1, e2, e3]
  clear e1 e2 e3
  have H := hide h
  clear h
  go_enter Tryz.func137, Tryz.ntmps137
  go_wp2
  go_ret2
  obtain ⟨hb, ho, hf, hk, hn⟩ := unhide H
  exact ⟨rfl, ⟨hb.set 0 _, own_keep ho ((Chg.refl [b] w).setCell (p := ⟨b, 0, none⟩) (by simp) _) (by simpa using hn), hf, hk, hn⟩, (Chg.refl _ _).setCell (by simp) _⟩
def Nxt (w : World) (v v' : Value) : Prop := v'.ownBlock = v.ownBlock ∨ ∃ g, v'.ownBlock = some g ∧ w.heap.size ≤ g
theorem Nxt.same (w : World) (v : Value) : Nxt w v v := .inl rfl
theorem Blk.grew {w w' : World} {b : Nat} {c : Array Value} {t : TypeId} (h : Blk w b c t) {row : Option Nat} (g : w.grownBy w' row) (hn : row ≠ some b) : Blk w' b c t := by
 have hl := h.lt
 unfold Blk at h ⊢
 rw [g.block b hl (fun e => hn e.symm)]
 exact h
theorem own_slice {w : World} {base : Nat} {e : TypeId} {size : Nat} {v : Value} {n : Nat} {xs : List Value} (h : w.ownsRow base e size v n xs) : ∃ a m c, v = .slice a m c := by
 rcases h.2 with ⟨h, _⟩ | ⟨g, c, _, h, _⟩
 ·exact ⟨_, _, _, h⟩
 ·exact ⟨_, _, _, h⟩
theorem Dsk.onto {ty e8 : TypeId} {w w' : World} {base b : Nat} {ep : Int} {v v' : Value} {l x : List Int} (h : Dsk ty e8 w base b ep v l) (hx : okB x) (hn : l.length + x.length ≤ 1500) (own : w'.ownsRow base e8 1 v' (l.length + x.length) (U8 l ++ U8 x)) (gr : w.grownBy w' v.ownBlock) (hat : v'.ownBlock = v.ownBlock ∨ v'.ownBlock = some w.heap.size) :
  Dsk ty e8 (w'.setCell ⟨b, 1, none⟩ v') base b ep v' (l ++ x) ∧ Chg (fp b v) w (w'.setCell ⟨b, 1, none⟩ v') ∧ Nxt w v v' := by
 have hl := h.blk.lt
 have hne : v'.ownBlock ≠ some b := by
  rcases hat with e | e
  ·rw [e]; exact h.ne
  ·rw [e]; simp; omega
 refine ⟨⟨(h.blk.grew gr h.ne).set 1 v', ?_, by simpa using hn, h.ok.app hx, hne⟩, ?_, ?_⟩
 ·rw [List.length_append, U8_app]
  exact own_keep own ((Chg.refl [b] w').setCell (p := ⟨b, 1, none⟩) (by simp) v') (by simpa using hne)
 ·exact ((Chg.refl (fp b v) w).grew gr (fun k hk => .inl (mem_fp.2 (.inr hk)))).setCell (p := ⟨b, 1, none⟩) (.inl (mem_fp.2 (.inl rfl))) _
 ·exact hat.imp id (fun e => ⟨_, e, Nat.le_refl _⟩)
theorem Dsk.cutTo {ty e8 : TypeId} {w : World} {base b : Nat} {ep : Int} {v : Value} {l : List Int} (h : Dsk ty e8 w base b ep v l) (v' : Value) (k : Nat) (own : w.ownsRow base e8 1 v' (l.take k).length (U8 (l.take k))) (hat : v'.ownBlock = v.ownBlock) :
  Dsk ty e8 (w.setCell ⟨b, 1, none⟩ v') base b ep v' (l.take k) ∧ Chg (fp b v) w (w.setCell ⟨b, 1, none⟩ v') ∧ Nxt w v v' := by
 have hne : v'.ownBlock ≠ some b := by rw [hat]; exact h.ne
 refine ⟨⟨h.blk.set 1 v', own_keep own ((Chg.refl [b] w).setCell (p := ⟨b, 1, none⟩) (by simp) v') (by simpa using hne), by have := h.few; rw [List.length_take]; omega, h.ok.take k, hne⟩, ?_, .inl hat⟩
 exact (Chg.refl (fp b v) w).setCell (p := ⟨b, 1, none⟩) (.inl (mem_fp.2 (.inl rfl))) _
set_option maxRecDepth 100000 in
set_option maxHeartbeats 1000000 in
theorem clone_any (v : Value) (l : List Int) (w : World) (h : Sl w v l) (hn : l.length ≤ 1500) :
  Calls Tryz.prog 58 #[v] w fun e w' => ∃ v', e = .returned v' ∧ w'.ownsRow w.heap.size 5 1 v' l.length (U8 l) ∧ Chg [] w w' := by
 obtain ⟨i0, hi, hz0, hz1, hz2⟩ := kInfoParts ku8Info
 have hq : ∀ (W : World) (a : Option Addr) (n c n' c' : Nat), (binOp .eql 42 (.slice a n c) (.slice none n' c')).run Tryz.prog W = .ok (.bool a.isNone) W := fun W a n c n' c' => Lib.run_eql_slice_nil W _ _ a n c n' c' Tryz.underlying42
 rcases h with ⟨rfl, rfl⟩ | ⟨p, c, rfl, hc, h⟩
 ·go_enter Tryz.func58, Tryz.ntmps58
  go_wp2
  go_ret
  exact ⟨_, rfl, World.ownsRow_nil _ _ _ _, Chg.refl _ _⟩
 ·have HH := hide h
  clear h
  go_enter Tryz.func58, Tryz.ntmps58
  go_wp2_with (at_builtin; refine wpList_append_own _ rfl (.tmp 5) (.tmp 6) 42 rfl w.heap.size 5 i0 (.int .u8 0) 1 1 Tryz.underlying42 hi hz0 hz1 hz2 rfl (by decide) (.slice (some ⟨w.heap.size, 0, none⟩) 0 0) 0 [] rfl (World.ownsRow_made w #[] 0 (Nat.le_refl _) (by unfold maxLen; omega) (by simp)) p l.length c (U8 l) rfl (by rw [U8_len]; omega) ?hn (U8_one l) (by unfold maxLen; omega) (by omega) (by simp) ?_; (case hn => (intro j u hj; obtain ⟨x, hx, rfl⟩ := U8_at hj; have h0 := unhide HH j x hx; have hlt := World.block_lt_of_cell? w _ h0; rw [World.cell?_of_block (w := w) (Below.heap_alloc w _ _ hlt)]; exact h0)); intro v2 w2 own2 gr2 _; have OW := hide own2; have GR := hide gr2; clear own2 gr2)
  go_ret
  have own2 := unhide OW
  simp only [Nat.zero_add, List.nil_append] at own2
  exact ⟨_, rfl, own2, ((Chg.refl [] w).alloc _).grew (unhide GR) (fun k hk => .inr (by simp [Value.ownBlock] at hk; omega))⟩
set_option maxRecDepth 100000 in
theorem dbytes_any (b : Nat) (ep : Int) (v : Value) (l : List Int) (base : Nat) (w : World) (h : Dsk 115 5 w base b ep v l) :
  Calls Tryz.prog 32 #[.pointer (some ⟨b, 0, none⟩)] w fun e w' => ∃ v', e = .returned v' ∧ w'.ownsRow w.heap.size 5 1 v' l.length (U8 l) ∧ Chg [] w w' := by
 obtain ⟨c0, c1, hl, f0, f1⟩ := h.cells
 have hs := own_sl h.own
 have hf := h.few
 have HS := hide hs
 clear h hs
 go_enter Tryz.func32, Tryz.ntmps32
 go_wp2_with (go_at_call 58; refine (clone_any v l _ (unhide HS) hf).mono ?_; rintro e w1 ⟨v1, rfl, own1, g1⟩; have OW := hide own1; have GR := hide g1; clear own1 g1)
 go_ret
 exact ⟨_, rfl, unhide OW, unhide GR⟩
set_option maxRecDepth 100000 in
set_option maxHeartbeats 2000000 in
theorem dapp_any (b : Nat) (ep : Int) (v : Value) (l : List Int) (base : Nat) (e0 : Int) (vx : Value) (x : List Int) (w : World) (h : Dsk 115 5 w base b ep v l) (hx : Sl w vx x) (hk : okB x) (hbase : base ≤ w.heap.size) :
  Calls Tryz.prog 151 #[.pointer (some ⟨b, 0, none⟩), .int .i64 e0, vx] w fun e w' => e = .returned (.int .i64 (apC ep l.length x.length e0)) ∧ ∃ v', Dsk 115 5 w' base b ep v' (apL ep l x e0) ∧ Chg (fp b v) w w' ∧ Nxt w v v' := by
 obtain ⟨i0, hi, hz0, hz1, hz2⟩ := kInfoParts ku8Info
 obtain ⟨c0, c1, hl, f0, f1⟩ := h.cells
 have hfew := h.few
 have H := hide h
 have HX := hide hx
 have HF := own_form h.own
 clear h
 by_cases hf : fenB ep e0 = true
 ·obtain ⟨e1, e2⟩ := ap_fen hf l x
  rw [e1, e2]
  clear e1 e2 HF hx
  go_enter Tryz.func151, Tryz.ntmps151
  go_wp2_with (go_at_call 149; refine (dfen_any b ep v l base e0 _ (unhide H)).mono ?_; rintro e w1 ⟨rfl, rfl⟩)
  go_ret
  exact ⟨rfl, v, unhide H, Chg.refl _ _, Nxt.same _ _⟩
 ·have hf' : fenB ep e0 = false := by simpa using hf
  clear hf
  by_cases hn : 1500 < l.length + x.length
  ·obtain ⟨e1, e2⟩ := ap_full hf' hn
   rw [e1, e2]
   clear e1 e2
   have hd : decide ((1500 : Int) - (l.length : Int) < (x.length : Int)) = true := by simp; omega
   rcases HF with ⟨rfl, rfl⟩ | ⟨g, c, rfl, hc⟩
   ·have hd' : decide ((1500 : Int) < (x.length : Int)) = true := by simpa using hd
    rcases hx with ⟨rfl, rfl⟩ | ⟨p, cx, rfl, hcx, hx⟩
    ·simp at hn
    ·clear hx
     go_enter Tryz.func151, Tryz.ntmps151
     go_wp2_with (go_at_call 149; refine (dfen_any b ep _ _ base e0 _ (unhide H)).mono ?_; rintro e w1 ⟨rfl, rfl⟩)
     go_ret
     exact ⟨rfl, _, unhide H, Chg.refl _ _, Nxt.same _ _⟩
   ·rcases hx with ⟨rfl, rfl⟩ | ⟨p, cx, rfl, hcx, hx⟩
    ·simp at hn; omega
    ·clear hx
     go_enter Tryz.func151, Tryz.ntmps151
     go_wp2_with (go_at_call 149; refine (dfen_any b ep _ _ base e0 _ (unhide H)).mono ?_; rintro e w1 ⟨rfl, rfl⟩)
     go_ret
     exact ⟨rfl, _, unhide H, Chg.refl _ _, Nxt.same _ _⟩
  ·obtain ⟨e1, e2⟩ := ap_yes hf' hn
   rw [e1, e2]
   clear e1 e2
   have hd : decide ((1500 : Int) - (l.length : Int) < (x.length : Int)) = false := by simp; omega
   rcases hx with ⟨rfl, rfl⟩ | ⟨p, cx, rfl, hcx, hx⟩
   ·have HO := hide (unhide H).own
    rcases HF with ⟨rfl, rfl⟩ | ⟨g, c, rfl, hc⟩
    ·go_enter Tryz.func151, Tryz.ntmps151
     go_wp2_with (first
      | (go_at_call 149; refine (dfen_any b ep _ _ base e0 _ (unhide H)).mono ?_; rintro e w1 ⟨rfl, rfl⟩)
      | (at_builtin; refine wpList_append_own_none rfl (.tmp 23) (.tmp 24) 42 rfl base 5 i0 1 Tryz.underlying42 hi (.slice none 0 0) 0 [] rfl (unhide HO) rfl ?_))
     go_ret
     obtain ⟨r1, r2, r3⟩ := (unhide H).cutTo (.slice none 0 0) 0 (World.ownsRow_nil _ _ _ _) rfl
     exact ⟨rfl, _, r1, r2, r3⟩
    ·go_enter Tryz.func151, Tryz.ntmps151
     go_wp2_with (first
      | (go_at_call 149; refine (dfen_any b ep _ _ base e0 _ (unhide H)).mono ?_; rintro e w1 ⟨rfl, rfl⟩)
      | (at_builtin; refine wpList_append_own_none rfl (.tmp 23) (.tmp 24) 42 rfl base 5 i0 1 Tryz.underlying42 hi (.slice (some ⟨g, 0, none⟩) l.length c) l.length (U8 l) rfl (unhide HO) rfl ?_))
     go_ret
     obtain ⟨r1, r2, r3⟩ := (unhide H).cutTo (.slice (some ⟨g, 0, none⟩) l.length c) l.length (by rw [List.take_length]; exact unhide HO) rfl
     rw [List.take_length] at r1
     rw [List.append_nil]
     exact ⟨rfl, _, r1, r2, r3⟩
   ·have hx' : ∀ j u, (U8 x)[j]? = some u → w.cell? (p.add j) = some u := fun j u hj => by
     obtain ⟨y, hy, rfl⟩ := U8_at hj
     exact hx j y hy
    have HX' := hide hx'
    have HO := hide (unhide H).own
    clear hx hx' HX
    rcases HF with ⟨rfl, rfl⟩ | ⟨g, c, rfl, hc⟩
    ·have hd' : decide ((1500 : Int) < (x.length : Int)) = false := by simpa using hd
     have hn' : x.length ≤ 1500 := by simpa using hn
     go_enter Tryz.func151, Tryz.ntmps151
     go_wp2_with (first
      | (go_at_call 149; refine (dfen_any b ep _ _ base e0 _ (unhide H)).mono ?_; rintro e w1 ⟨rfl, rfl⟩)
      | (at_builtin; refine wpList_append_own_at _ rfl (.tmp 23) (.tmp 24) 42 rfl base 5 i0 (.int .u8 0) 1 1 Tryz.underlying42 hi hz0 hz1 hz2 rfl (by decide) (.slice none 0 0) 0 [] rfl (unhide HO) p x.length cx (U8 x) rfl (by rw [U8_len]; omega) (unhide HX') (U8_one x) (by unfold maxLen; omega) (by omega) hbase ?_; intro v2 w2 own2 gr2 _ at2; obtain ⟨a2, n2, c2, rfl⟩ := own_slice own2; have B2 := (unhide H).blk.grew gr2 (unhide H).ne; have k0 : w2.cell? ⟨b, 1, none⟩ = some _ := B2.cell 1; have k1 := B2.fz 1; have k2 := B2.lt; have OW := hide own2; have GR := hide gr2; have AT := hide at2; clear own2 gr2 at2 B2))
     go_ret
     obtain ⟨r1, r2, r3⟩ := (unhide H).onto hk (by simpa using hn') (unhide OW) (unhide GR) (unhide AT)
     exact ⟨rfl, _, r1, r2, r3⟩
    ·go_enter Tryz.func151, Tryz.ntmps151
     go_wp2_with (first
      | (go_at_call 149; refine (dfen_any b ep _ _ base e0 _ (unhide H)).mono ?_; rintro e w1 ⟨rfl, rfl⟩)
      | (at_builtin; refine wpList_append_own_at _ rfl (.tmp 23) (.tmp 24) 42 rfl base 5 i0 (.int .u8 0) 1 1 Tryz.underlying42 hi hz0 hz1 hz2 rfl (by decide) (.slice (some ⟨g, 0, none⟩) l.length c) l.length (U8 l) rfl (unhide HO) p x.length cx (U8 x) rfl (by rw [U8_len]; omega) (unhide HX') (U8_one x) (by unfold maxLen; omega) (by omega) hbase ?_; intro v2 w2 own2 gr2 _ at2; obtain ⟨a2, n2, c2, rfl⟩ := own_slice own2; have B2 := (unhide H).blk.grew gr2 (unhide H).ne; have k0 : w2.cell? ⟨b, 1, none⟩ = some _ := B2.cell 1; have k1 := B2.fz 1; have k2 := B2.lt; have OW := hide own2; have GR := hide gr2; have AT := hide at2; clear own2 gr2 at2 B2))
     go_ret
     obtain ⟨r1, r2, r3⟩ := (unhide H).onto hk (by omega) (unhide OW) (unhide GR) (unhide AT)
     exact ⟨rfl, _, r1, r2, r3⟩
set_option maxRecDepth 100000 in
set_option maxHeartbeats 2000000 in
theorem dcut_any (b : Nat) (ep : Int) (v : Value) (l : List Int) (base : Nat) (e0 k : Int) (w : World) (h : Dsk 115 5 w base b ep v l) :
  Calls Tryz.prog 139 #[.pointer (some ⟨b, 0, none⟩), .int .i64 e0, .int .i64 k] w fun e w' => e = .returned (.int .i64 (ctC ep l.length e0 k)) ∧ ∃ v', Dsk 115 5 w' base b ep v' (ctL ep l e0 k) ∧ Chg (fp b v) w w' ∧ Nxt w v v' := by
 obtain ⟨c0, c1, hl, f0, f1⟩ := h.cells
 have hfew := h.few
 have H := hide h
 have HF := own_form h.own
 clear h
 by_cases hf : fenB ep e0 = true
 ·obtain ⟨e1, e2⟩ := ct_fen hf l k
  rw [e1, e2]
  clear e1 e2 HF
  go_enter Tryz.func139, Tryz.ntmps139
  go_wp2_with (go_at_call 149; refine (dfen_any b ep v l base e0 _ (unhide H)).mono ?_; rintro e w1 ⟨rfl, rfl⟩)
  go_ret
  exact ⟨rfl, v, unhide H, Chg.refl _ _, Nxt.same _ _⟩
 ·have hf' : fenB ep e0 = false := by simpa using hf
  clear hf
  by_cases hk0 : k < 0
  ·obtain ⟨e1, e2⟩ := ct_range hf' (l := l) (.inl hk0)
   rw [e1, e2]
   clear e1 e2
   have d0 : decide (k < 0) = true := by simpa using hk0
   clear HF
   go_enter Tryz.func139, Tryz.ntmps139
   go_wp2_with (go_at_call 149; refine (dfen_any b ep v l base e0 _ (unhide H)).mono ?_; rintro e w1 ⟨rfl, rfl⟩)
   go_ret
   exact ⟨rfl, v, unhide H, Chg.refl _ _, Nxt.same _ _⟩
  ·have d0 : decide (k < 0) = false := by simpa using hk0
   by_cases hkn : (l.length : Int) < k
   ·obtain ⟨e1, e2⟩ := ct_range hf' (l := l) (.inr hkn)
    rw [e1, e2]
    clear e1 e2
    have d1 : decide ((l.length : Int) < k) = true := by simpa using hkn
    rcases HF with ⟨rfl, rfl⟩ | ⟨g, c, rfl, hc⟩
    ·have d2 : decide ((0 : Int) < k) = true := by simpa using hkn
     go_enter Tryz.func139, Tryz.ntmps139
     go_wp2_with (go_at_call 149; refine (dfen_any b ep _ _ base e0 _ (unhide H)).mono ?_; rintro e w1 ⟨rfl, rfl⟩)
     go_ret
     exact ⟨rfl, _, unhide H, Chg.refl _ _, Nxt.same _ _⟩
    ·go_enter Tryz.func139, Tryz.ntmps139
     go_wp2_with (go_at_call 149; refine (dfen_any b ep _ _ base e0 _ (unhide H)).mono ?_; rintro e w1 ⟨rfl, rfl⟩)
     go_ret
     exact ⟨rfl, _, unhide H, Chg.refl _ _, Nxt.same _ _⟩
   ·obtain ⟨e1, e2⟩ := ct_yes hf' (l := l) (k := k) (by omega)
    rw [e1, e2]
    clear e1 e2
    obtain ⟨m, rfl⟩ : ∃ m : Nat, k = m := ⟨k.toNat, by omega⟩
    rw [Int.toNat_natCast]
    have hm : m ≤ l.length := by omega
    have d1 : decide ((l.length : Int) < (m : Int)) = false := by simp; omega
    clear hk0 hkn
    have HO := hide (unhide H).own
    rcases HF with ⟨rfl, rfl⟩ | ⟨g, c, rfl, hc⟩
    ·obtain rfl : m = 0 := by simpa using hm
     go_enter Tryz.func139, Tryz.ntmps139
     go_wp2_with (go_at_call 149; refine (dfen_any b ep _ _ base e0 _ (unhide H)).mono ?_; rintro e w1 ⟨rfl, rfl⟩)
     go_ret
     obtain ⟨r1, r2, r3⟩ := (unhide H).cutTo (.slice none 0 0) 0 (World.ownsRow_nil _ _ _ _) rfl
     exact ⟨rfl, _, r1, r2, r3⟩
    ·have hmc : (m : Int) ≤ (c : Int) := by omega
     go_enter Tryz.func139, Tryz.ntmps139
     go_wp2_with (go_at_call 149; refine (dfen_any b ep _ _ base e0 _ (unhide H)).mono ?_; rintro e w1 ⟨rfl, rfl⟩)
     go_ret
     obtain ⟨r1, r2, r3⟩ := (unhide H).cutTo (.slice (some ⟨g, 0, none⟩) m c) m (own_cut (unhide HO) hm) rfl
     exact ⟨rfl, _, r1, r2, r3⟩
end Go.Proofs.YtllnjiljjodfdacGreatDoor
