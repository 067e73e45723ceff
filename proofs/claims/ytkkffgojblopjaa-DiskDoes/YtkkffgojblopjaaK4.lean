/-
  What the walks of the laws of the disk share. Nothing here is claimed by itself.
-/
import Derived.Test.YtkkffgojblopjaaK3
import Derived.Deep.RegionHeld3
namespace Go.Proofs.Ytkkffgojblopjaa
open Go.RowKit

theorem Dsk.low {ty e8 : TypeId} {w : World} {base base' b : Nat} {ep : Int} {v : Value} {l : List Int} (h : Dsk ty e8 w base b ep v l) (hb : base' ≤ base) : Dsk ty e8 w base' b ep v l :=
  ⟨h.blk, own_base h.own hb, h.few, h.ok, h.ne⟩
theorem Dsk.drew {ty e8 : TypeId} {w : World} {base b : Nat} {ep : Int} {v : Value} {l : List Int} (h : Dsk ty e8 w base b ep v l) : Dsk ty e8 w.drew base b ep v l :=
  h.chg ((Chg.refl [] w).drew) (by simp)
theorem rsE_bd {ep : Int} (h0 : 0 ≤ ep) (h1 : ep ≤ 100) : 0 ≤ rsE ep ∧ rsE ep ≤ 100 := by
  unfold rsE
  split <;> omega

theorem dapp_no (b : Nat) (ep : Int) (v : Value) (l : List Int) (base : Nat) (e0 : Int) (vx : Value) (w : World) (h : Dsk 93 5 w base b ep v l) (hf : fenB ep e0 = true) :
    Calls Try.prog 40 #[.pointer (some ⟨b, 0, none⟩), .int .i64 e0, vx] w fun e w' => e = .returned (.int .i64 9) ∧ w' = w := by
  have H := hide h
  clear h
  go_enter Try.func40, Try.ntmps40
  go_wp2_with (go_at_call 57; refine (dfen_any b ep v l base e0 _ (unhide H)).mono ?_; rintro e w1 ⟨rfl, rfl⟩)
  go_ret
  exact ⟨rfl, rfl⟩
theorem dcut_no (b : Nat) (ep : Int) (v : Value) (l : List Int) (base : Nat) (e0 k : Int) (w : World) (h : Dsk 93 5 w base b ep v l) (hf : fenB ep e0 = true) :
    Calls Try.prog 42 #[.pointer (some ⟨b, 0, none⟩), .int .i64 e0, .int .i64 k] w fun e w' => e = .returned (.int .i64 9) ∧ w' = w := by
  have H := hide h
  clear h
  go_enter Try.func42, Try.ntmps42
  go_wp2_with (go_at_call 57; refine (dfen_any b ep v l base e0 _ (unhide H)).mono ?_; rintro e w1 ⟨rfl, rfl⟩)
  go_ret
  exact ⟨rfl, rfl⟩

theorem fen_self {ep : Int} (h : 1 ≤ ep) : fenB ep ep = false := by simp [fenB]; omega
theorem fen_below {ep e : Int} (h : e < ep) : fenB ep e = true := by simp [fenB]; omega
theorem pickE (x : Int) : ∃ k : Nat, k ≤ 99 ∧ wrap64 ((IntKind.u64.wrap x).tmod 100) = k := by
  have h0 : 0 ≤ IntKind.u64.wrap x := by simp only [IntKind.wrap, IntKind.bits, IntKind.signed]; simp; omega
  have h1 : 0 ≤ (IntKind.u64.wrap x).tmod 100 := Int.tmod_nonneg _ h0
  have h2 : (IntKind.u64.wrap x).tmod 100 < 100 := Int.tmod_lt_of_pos _ (by omega)
  refine ⟨((IntKind.u64.wrap x).tmod 100).toNat, by omega, ?_⟩
  unfold wrap64
  omega
theorem dcut_zero (b : Nat) (ep : Int) (v : Value) (l : List Int) (base : Nat) (w : World) (h : Dsk 93 5 w base b ep v l) (h1 : 1 ≤ ep) :
    Calls Try.prog 42 #[.pointer (some ⟨b, 0, none⟩), .int .i64 ep, .int .i64 0] w fun e w' => e = .returned (.int .i64 0) ∧ ∃ v', Dsk 93 5 w' base b ep v' [] ∧ Chg (fp b v) w w' ∧ Nxt w v v' := by
  have := dcut_any b ep v l base ep 0 w h
  obtain ⟨e1, e2⟩ := ct_yes (fen_self h1) (l := l) (k := 0) (by omega)
  rw [e1, e2] at this
  exact this
theorem dapp_yes (b : Nat) (ep : Int) (v : Value) (l : List Int) (base : Nat) (vx : Value) (x : List Int) (w : World) (h : Dsk 93 5 w base b ep v l) (h1 : 1 ≤ ep) (hx : Sl w vx x) (hk : okB x) (hbase : base ≤ w.heap.size) (hn : l.length + x.length ≤ 1500) :
    Calls Try.prog 40 #[.pointer (some ⟨b, 0, none⟩), .int .i64 ep, vx] w fun e w' => e = .returned (.int .i64 0) ∧ ∃ v', Dsk 93 5 w' base b ep v' (l ++ x) ∧ Chg (fp b v) w w' ∧ Nxt w v v' := by
  have := dapp_any b ep v l base ep vx x w h hx hk hbase
  obtain ⟨e1, e2⟩ := ap_yes (fen_self h1) (l := l) (x := x) (by omega)
  rw [e1, e2] at this
  exact this
theorem draise_full (b : Nat) (v : Value) (l : List Int) (base : Nat) (w : World) (h : Dsk 93 5 w base b 100 v l) :
    Calls Try.prog 38 #[.pointer (some ⟨b, 0, none⟩)] w fun e w' => e = .returned (.tuple #[.int .i64 0, .int .i64 8]) ∧ Dsk 93 5 w' base b 100 v l ∧ Chg [b] w w' :=
  draise_any b 100 v l base w h (by omega) (by omega)
theorem draise_more (b : Nat) (ep : Int) (v : Value) (l : List Int) (base : Nat) (w : World) (h : Dsk 93 5 w base b ep v l) (h0 : 0 ≤ ep) (h1 : ¬ 100 ≤ ep) :
    Calls Try.prog 38 #[.pointer (some ⟨b, 0, none⟩)] w fun e w' => e = .returned (.tuple #[.int .i64 (ep + 1), .int .i64 0]) ∧ Dsk 93 5 w' base b (ep + 1) v l ∧ Chg [b] w w' := by
  have := draise_any b ep v l base w h h0 (by omega)
  obtain ⟨e1, e2, e3⟩ := rs_more h1
  rw [e1, e2, e3] at this
  exact this
theorem Blk.cells4 {w : World} {b : Nat} {v0 v1 v2 v3 : Value} {t : TypeId} (h : Blk w b #[v0, v1, v2, v3] t) :
    w.cell? ⟨b, 0, none⟩ = some v0 ∧ w.cell? ⟨b, 1, none⟩ = some v1 ∧ w.cell? ⟨b, 2, none⟩ = some v2 ∧ w.cell? ⟨b, 3, none⟩ = some v3 ∧ b < w.heap.size :=
  ⟨h.cell 0, h.cell 1, h.cell 2, h.cell 3, h.lt⟩

end Go.Proofs.Ytkkffgojblopjaa
