/-
  More on texts of bytes, and on a disk that refuses. Nothing here is claimed by itself.
-/
import Derived.Test.YtkkffgojblopjaaK4
namespace Go.Proofs.Ytkkffgojblopjaa
open Go.RowKit

theorem str_app (l x : List Int) : strOfNums l ++ strOfNums x = strOfNums (l ++ x) := by
  apply ByteArray.ext
  simp [strOfNums]
theorem str_take (l : List Int) (m : Nat) : (strOfNums l).extract 0 m = strOfNums (l.take m) := by
  apply ByteArray.ext
  simp [strOfNums, List.map_take]
theorem fen_wrap {ep se : Int} (r0 : -9223372036854775808 ≤ se) (r1 : se ≤ 9223372036854775807) (hs : ¬ se = 0) : fenB ep (wrap64 (ep - se)) = true := by
  have h : wrap64 (ep - se) ≠ ep := by
    unfold wrap64
    omega
  simp [fenB]
  exact .inr h
theorem own_m {w : World} {base : Nat} {e : TypeId} {size : Nat} {a : Option Addr} {m c n : Nat} {xs : List Value} (h : w.ownsRow base e size (.slice a m c) n xs) : m = n := by
  rcases h.2 with ⟨h, h0⟩ | ⟨g, c', _, h, _⟩
  · simp only [Value.slice.injEq] at h
    omega
  · simp only [Value.slice.injEq] at h
    omega
theorem own_some {w : World} {base : Nat} {e : TypeId} {size : Nat} {a : Option Addr} {m c n : Nat} {xs : List Value} (h : w.ownsRow base e size (.slice a m c) n xs) (hn : 0 < n) : ∃ g, a = some ⟨g, 0, none⟩ ∧ base ≤ g := by
  rcases h.2 with ⟨h, h0⟩ | ⟨g, c', _, h, hb, _⟩
  · omega
  · simp only [Value.slice.injEq] at h
    exact ⟨g, h.1, hb⟩
theorem dapp_full (b : Nat) (ep : Int) (v : Value) (l : List Int) (base : Nat) (vx : Value) (x : List Int) (w : World) (h : Dsk 93 5 w base b ep v l) (h1 : 1 ≤ ep) (hx : Sl w vx x) (hk : okB x) (hbase : base ≤ w.heap.size) (hn : 1500 < l.length + x.length) :
    Calls Try.prog 40 #[.pointer (some ⟨b, 0, none⟩), .int .i64 ep, vx] w fun e w' => e = .returned (.int .i64 8) ∧ ∃ v', Dsk 93 5 w' base b ep v' l ∧ Chg (fp b v) w w' ∧ Nxt w v v' := by
  have := dapp_any b ep v l base ep vx x w h hx hk hbase
  obtain ⟨e1, e2⟩ := ap_full (fen_self h1) (l := l) (x := x) hn
  rw [e1, e2] at this
  exact this
theorem dcut_rng (b : Nat) (ep : Int) (v : Value) (l : List Int) (base : Nat) (k : Int) (w : World) (h : Dsk 93 5 w base b ep v l) (h1 : 1 ≤ ep) (hk : k < 0 ∨ (l.length : Int) < k) :
    Calls Try.prog 42 #[.pointer (some ⟨b, 0, none⟩), .int .i64 ep, .int .i64 k] w fun e w' => e = .returned (.int .i64 3) ∧ ∃ v', Dsk 93 5 w' base b ep v' l ∧ Chg (fp b v) w w' ∧ Nxt w v v' := by
  have := dcut_any b ep v l base ep k w h
  obtain ⟨e1, e2⟩ := ct_range (fen_self h1) (l := l) hk
  rw [e1, e2] at this
  exact this
theorem dcut_yes (b : Nat) (ep : Int) (v : Value) (l : List Int) (base : Nat) (m : Nat) (w : World) (h : Dsk 93 5 w base b ep v l) (h1 : 1 ≤ ep) (hm : m ≤ l.length) :
    Calls Try.prog 42 #[.pointer (some ⟨b, 0, none⟩), .int .i64 ep, .int .i64 (m : Int)] w fun e w' => e = .returned (.int .i64 0) ∧ ∃ v', Dsk 93 5 w' base b ep v' (l.take m) ∧ Chg (fp b v) w w' ∧ Nxt w v v' := by
  have := dcut_any b ep v l base ep m w h
  obtain ⟨e1, e2⟩ := ct_yes (fen_self h1) (l := l) (k := m) (by omega)
  rw [e1, e2, Int.toNat_natCast] at this
  exact this

end Go.Proofs.Ytkkffgojblopjaa
