/-
  Small facts on slices of bytes. Nothing here is claimed by itself.
-/
import Derived.Lib.SlBytesConst
import Derived.Deep.RegionHeld3
import Derived.Test.YtllnjiljjodfdacGreatDoorMgK1
namespace Go.Proofs.YtllnjiljjodfdacGreatDoor
open Go.RowKit

theorem kCell {bs : List Nat} {w w' : World} (h : Chg bs w w') {p : Addr} (hp : p.block < w.heap.size) (hb : p.block ∉ bs) : w'.cell? p = w.cell? p := World.cell?_of_block (w := w) (h.block p.block hp hb)
theorem sl_slice {w : World} {v : Value} {l : List Int} (h : Sl w v l) : ∃ a c, v = .slice a l.length c := by
  rcases h with ⟨rfl, rfl⟩ | ⟨p, c, rfl, _⟩
  · exact ⟨none, 0, rfl⟩
  · exact ⟨_, c, rfl⟩
theorem sl_new (w : World) (l : List Int) (c : Array Value) (hc : c.toList = U8 l) (t : TypeId) (fz : Nat × Nat) : Sl (w.alloc (.cells c t fz)) (.slice (some ⟨w.heap.size, 0, none⟩) l.length l.length) l := by
  refine .inr ⟨_, _, rfl, Nat.le_refl _, fun j u hj => ?_⟩
  have e : ((⟨w.heap.size, 0, none⟩ : Addr).add j) = ⟨w.heap.size, j, none⟩ := by simp [Addr.add]; omega
  have hb : (w.alloc (.cells c t fz)).heap[w.heap.size]? = some (.cells c t fz) := by
    show (w.heap.push _)[w.heap.size]? = _
    simp
  rw [e]
  simp only [World.cell?, hb]
  rw [← Array.getElem?_toList, hc]
  simp [U8, hj]
theorem okB_lit {l : List Int} (h : l.all (fun x => decide (0 ≤ x ∧ x < 256)) = true) : okB l := fun x hx => by
  have := List.all_eq_true.1 h x hx
  simpa using this

end Go.Proofs.YtllnjiljjodfdacGreatDoor

namespace Go.Proofs.YtllnjiljjodfdacGreatDoor
open Go.RowKit

theorem Dsk.low {ty e8 : TypeId} {w : World} {base base' b : Nat} {ep : Int} {v : Value} {l : List Int} (h : Dsk ty e8 w base b ep v l) (hb : base' ≤ base) : Dsk ty e8 w base' b ep v l :=
  ⟨h.blk, own_base h.own hb, h.few, h.ok, h.ne⟩
theorem Dsk.drew {ty e8 : TypeId} {w : World} {base b : Nat} {ep : Int} {v : Value} {l : List Int} (h : Dsk ty e8 w base b ep v l) : Dsk ty e8 w.drew base b ep v l :=
  h.chg ((Chg.refl [] w).drew) (by simp)
theorem rsE_bd {ep : Int} (h0 : 0 ≤ ep) (h1 : ep ≤ 100) : 0 ≤ rsE ep ∧ rsE ep ≤ 100 := by
  unfold rsE
  split <;> omega

theorem dapp_no (b : Nat) (ep : Int) (v : Value) (l : List Int) (base : Nat) (e0 : Int) (vx : Value) (w : World) (h : Dsk 115 5 w base b ep v l) (hf : fenB ep e0 = true) :
    Calls Tryz.prog 151 #[.pointer (some ⟨b, 0, none⟩), .int .i64 e0, vx] w fun e w' => e = .returned (.int .i64 9) ∧ w' = w := by
  have H := hide h
  clear h
  go_enter Tryz.func151, Tryz.ntmps151
  go_wp2_with (go_at_call 149; refine (dfen_any b ep v l base e0 _ (unhide H)).mono ?_; rintro e w1 ⟨rfl, rfl⟩)
  go_ret
  exact ⟨rfl, rfl⟩
theorem dcut_no (b : Nat) (ep : Int) (v : Value) (l : List Int) (base : Nat) (e0 k : Int) (w : World) (h : Dsk 115 5 w base b ep v l) (hf : fenB ep e0 = true) :
    Calls Tryz.prog 139 #[.pointer (some ⟨b, 0, none⟩), .int .i64 e0, .int .i64 k] w fun e w' => e = .returned (.int .i64 9) ∧ w' = w := by
  have H := hide h
  clear h
  go_enter Tryz.func139, Tryz.ntmps139
  go_wp2_with (go_at_call 149; refine (dfen_any b ep v l base e0 _ (unhide H)).mono ?_; rintro e w1 ⟨rfl, rfl⟩)
  go_ret
  exact ⟨rfl, rfl⟩

theorem fen_self {ep : Int} (h : 1 ≤ ep) : fenB ep ep = false := by simp [fenB]; omega
theorem fen_below {ep e : Int} (h : e < ep) : fenB ep e = true := by simp [fenB]; omega
theorem pickE (x : Int) : ∃ k : Nat, k ≤ 99 ∧ wrap64 ((IntKind.u64.wrap x).tmod 100) = k := by
  have h0 : 0 ≤ IntKind.u64.wrap x := by simp only [IntKind.wrap, IntKind.bits, IntKind.signed]; simp; omega
  have h1 : 0 ≤ (IntKind.u64.wrap x).tmod 100 := Int.tmod_nonneg _ h0
  have h2 : (IntKind.u64.wrap x).tmod 100 < 100 := Int.tmod_lt_of_pos _ (by omega)
  refine ⟨((IntKind.u64.wrap x).tmod 100).toNat, by omega, ?_⟩
  unfold wrap64
  omega
theorem dcut_zero (b : Nat) (ep : Int) (v : Value) (l : List Int) (base : Nat) (w : World) (h : Dsk 115 5 w base b ep v l) (h1 : 1 ≤ ep) :
    Calls Tryz.prog 139 #[.pointer (some ⟨b, 0, none⟩), .int .i64 ep, .int .i64 0] w fun e w' => e = .returned (.int .i64 0) ∧ ∃ v', Dsk 115 5 w' base b ep v' [] ∧ Chg (fp b v) w w' ∧ Nxt w v v' := by
  have := dcut_any b ep v l base ep 0 w h
  obtain ⟨e1, e2⟩ := ct_yes (fen_self h1) (l := l) (k := 0) (by omega)
  rw [e1, e2] at this
  exact this
theorem dapp_yes (b : Nat) (ep : Int) (v : Value) (l : List Int) (base : Nat) (vx : Value) (x : List Int) (w : World) (h : Dsk 115 5 w base b ep v l) (h1 : 1 ≤ ep) (hx : Sl w vx x) (hk : okB x) (hbase : base ≤ w.heap.size) (hn : l.length + x.length ≤ 1500) :
    Calls Tryz.prog 151 #[.pointer (some ⟨b, 0, none⟩), .int .i64 ep, vx] w fun e w' => e = .returned (.int .i64 0) ∧ ∃ v', Dsk 115 5 w' base b ep v' (l ++ x) ∧ Chg (fp b v) w w' ∧ Nxt w v v' := by
  have := dapp_any b ep v l base ep vx x w h hx hk hbase
  obtain ⟨e1, e2⟩ := ap_yes (fen_self h1) (l := l) (x := x) (by omega)
  rw [e1, e2] at this
  exact this
theorem draise_full (b : Nat) (v : Value) (l : List Int) (base : Nat) (w : World) (h : Dsk 115 5 w base b 100 v l) :
    Calls Tryz.prog 137 #[.pointer (some ⟨b, 0, none⟩)] w fun e w' => e = .returned (.tuple #[.int .i64 0, .int .i64 8]) ∧ Dsk 115 5 w' base b 100 v l ∧ Chg [b] w w' :=
  draise_any b 100 v l base w h (by omega) (by omega)
theorem draise_more (b : Nat) (ep : Int) (v : Value) (l : List Int) (base : Nat) (w : World) (h : Dsk 115 5 w base b ep v l) (h0 : 0 ≤ ep) (h1 : ¬ 100 ≤ ep) :
    Calls Tryz.prog 137 #[.pointer (some ⟨b, 0, none⟩)] w fun e w' => e = .returned (.tuple #[.int .i64 (ep + 1), .int .i64 0]) ∧ Dsk 115 5 w' base b (ep + 1) v l ∧ Chg [b] w w' := by
  have := draise_any b ep v l base w h h0 (by omega)
  obtain ⟨e1, e2, e3⟩ := rs_more h1
  rw [e1, e2, e3] at this
  exact this
theorem Blk.cells4 {w : World} {b : Nat} {v0 v1 v2 v3 : Value} {t : TypeId} (h : Blk w b #[v0, v1, v2, v3] t) :
    w.cell? ⟨b, 0, none⟩ = some v0 ∧ w.cell? ⟨b, 1, none⟩ = some v1 ∧ w.cell? ⟨b, 2, none⟩ = some v2 ∧ w.cell? ⟨b, 3, none⟩ = some v3 ∧ b < w.heap.size :=
  ⟨h.cell 0, h.cell 1, h.cell 2, h.cell 3, h.lt⟩

end Go.Proofs.YtllnjiljjodfdacGreatDoor

namespace Go.Proofs.YtllnjiljjodfdacGreatDoor
open Go.RowKit

theorem str_app (l x : List Int) : strOfNums l ++ strOfNums x = strOfNums (l ++ x) := by
  apply ByteArray.ext
  simp [strOfNums]
theorem str_take (l : List Int) (m : Nat) : (strOfNums l).extract 0 m = strOfNums (l.take m) := by
  apply ByteArray.ext
  simp [strOfNums, List.map_take]
theorem fen_wrap {ep se : Int} (r0 : -9223372036854775808 ≤ se) (r1 : se ≤ 9223372036854775807) (hs : ¬ se = 0) : fenB ep (wrap64 (ep - se)) = true := by
  have h : wrap64 (ep - se) ≠ ep := by
    unfold wrap64
    omega
  simp [fenB]
  exact .inr h
theorem own_m {w : World} {base : Nat} {e : TypeId} {size : Nat} {a : Option Addr} {m c n : Nat} {xs : List Value} (h : w.ownsRow base e size (.slice a m c) n xs) : m = n := by
  rcases h.2 with ⟨h, h0⟩ | ⟨g, c', _, h, _⟩
  · simp only [Value.slice.injEq] at h
    omega
  · simp only [Value.slice.injEq] at h
    omega
theorem own_some {w : World} {base : Nat} {e : TypeId} {size : Nat} {a : Option Addr} {m c n : Nat} {xs : List Value} (h : w.ownsRow base e size (.slice a m c) n xs) (hn : 0 < n) : ∃ g, a = some ⟨g, 0, none⟩ ∧ base ≤ g := by
  rcases h.2 with ⟨h, h0⟩ | ⟨g, c', _, h, hb, _⟩
  · omega
  · simp only [Value.slice.injEq] at h
    exact ⟨g, h.1, hb⟩
theorem dapp_full (b : Nat) (ep : Int) (v : Value) (l : List Int) (base : Nat) (vx : Value) (x : List Int) (w : World) (h : Dsk 115 5 w base b ep v l) (h1 : 1 ≤ ep) (hx : Sl w vx x) (hk : okB x) (hbase : base ≤ w.heap.size) (hn : 1500 < l.length + x.length) :
    Calls Tryz.prog 151 #[.pointer (some ⟨b, 0, none⟩), .int .i64 ep, vx] w fun e w' => e = .returned (.int .i64 8) ∧ ∃ v', Dsk 115 5 w' base b ep v' l ∧ Chg (fp b v) w w' ∧ Nxt w v v' := by
  have := dapp_any b ep v l base ep vx x w h hx hk hbase
  obtain ⟨e1, e2⟩ := ap_full (fen_self h1) (l := l) (x := x) hn
  rw [e1, e2] at this
  exact this
theorem dcut_rng (b : Nat) (ep : Int) (v : Value) (l : List Int) (base : Nat) (k : Int) (w : World) (h : Dsk 115 5 w base b ep v l) (h1 : 1 ≤ ep) (hk : k < 0 ∨ (l.length : Int) < k) :
    Calls Tryz.prog 139 #[.pointer (some ⟨b, 0, none⟩), .int .i64 ep, .int .i64 k] w fun e w' => e = .returned (.int .i64 3) ∧ ∃ v', Dsk 115 5 w' base b ep v' l ∧ Chg (fp b v) w w' ∧ Nxt w v v' := by
  have := dcut_any b ep v l base ep k w h
  obtain ⟨e1, e2⟩ := ct_range (fen_self h1) (l := l) hk
  rw [e1, e2] at this
  exact this
theorem dcut_yes (b : Nat) (ep : Int) (v : Value) (l : List Int) (base : Nat) (m : Nat) (w : World) (h : Dsk 115 5 w base b ep v l) (h1 : 1 ≤ ep) (hm : m ≤ l.length) :
    Calls Tryz.prog 139 #[.pointer (some ⟨b, 0, none⟩), .int .i64 ep, .int .i64 (m : Int)] w fun e w' => e = .returned (.int .i64 0) ∧ ∃ v', Dsk 115 5 w' base b ep v' (l.take m) ∧ Chg (fp b v) w w' ∧ Nxt w v v' := by
  have := dcut_any b ep v l base ep m w h
  obtain ⟨e1, e2⟩ := ct_yes (fen_self h1) (l := l) (k := m) (by omega)
  rw [e1, e2, Int.toNat_natCast] at this
  exact this

end Go.Proofs.YtllnjiljjodfdacGreatDoor

