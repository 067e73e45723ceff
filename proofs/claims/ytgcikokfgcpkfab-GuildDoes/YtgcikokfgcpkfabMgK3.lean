/-
  The steps that the laws of the disk are handed; the laws' first look (diskBegun), and what is too great (greatDisk). Nothing here is claimed by itself.
-/
import Derived.Lib.SlBytesConst
import Derived.Deep.RegionHeld3
import Derived.Test.YtgcikokfgcpkfabMgK1
namespace Go.Proofs.Ytgcikokfgcpkfab
open Go.RowKit

structure Ds where
  d : Int
  e : Int
  n : Int
  v : Value
  x : List Int
def ds0 : Ds := ⟨0, 0, 0, .slice none 0 0, []⟩

def StpAt (w : World) (bl off : Nat) (s : Ds) : Prop :=
  w.cell? ⟨bl, off, none⟩ = some (.int .i64 s.d) ∧ w.cell? ⟨bl, off + 1, none⟩ = some (.int .i64 s.e) ∧ w.cell? ⟨bl, off + 2, none⟩ = some (.int .i64 s.n) ∧ w.cell? ⟨bl, off + 3, none⟩ = some s.v ∧
  Sl w s.v s.x ∧ okB s.x ∧ -9223372036854775808 ≤ s.e ∧ s.e ≤ 9223372036854775807
def Stps (w : World) (a : Option Addr) (len : Nat) (fs : Nat → Ds) : Prop :=
  len = 0 ∨ ∃ bl off, a = some ⟨bl, off, none⟩ ∧ bl < w.heap.size ∧ ∀ i, i < len → StpAt w bl (off + i * 4) (fs i)

theorem kCell {bs : List Nat} {w w' : World} (h : Chg bs w w') {p : Addr} (hp : p.block < w.heap.size) (hb : p.block ∉ bs) : w'.cell? p = w.cell? p := World.cell?_of_block (w := w) (h.block p.block hp hb)
theorem StpAt.chg {w w' : World} {bl off : Nat} {s : Ds} (h : StpAt w bl off s) (k : Chg [] w w') (hl : bl < w.heap.size) : StpAt w' bl off s := by
  obtain ⟨h0, h1, h2, h3, h4, h5⟩ := h
  exact ⟨by rw [kCell k hl (by simp)]; exact h0, by rw [kCell k hl (by simp)]; exact h1, by rw [kCell k hl (by simp)]; exact h2, by rw [kCell k hl (by simp)]; exact h3, h4.chg k (by simp), h5⟩
theorem sl_slice {w : World} {v : Value} {l : List Int} (h : Sl w v l) : ∃ a c, v = .slice a l.length c := by
  rcases h with ⟨rfl, rfl⟩ | ⟨p, c, rfl, _⟩
  · exact ⟨none, 0, rfl⟩
  · exact ⟨_, c, rfl⟩

def GreatSays (len : Nat) (fs : Nat → Ds) (e : Ending) : Prop := ∃ b, e = .returned (.bool b) ∧ (b = false → len ≤ 150 ∧ ∀ i, i < len → (fs i).x.length ≤ 2000)

set_option maxRecDepth 100000 in
set_option maxHeartbeats 1000000 in
theorem great_any (a : Option Addr) (len cap : Nat) (fs : Nat → Ds) (w : World) (h : Stps w a len fs) :
    Calls Try.prog 16 #[.slice a len cap] w fun e w' => GreatSays len fs e ∧ w' = w := by
  have HH := hide h
  clear h
  go_enter Try.func16, Try.ntmps16
  go_wp2_with fail
  go_loop [3] (fun i => ∃ k : Nat, k ≤ len ∧ k ≤ 200 ∧ i = .int .i64 k ∧ Hid (∀ j, j < k → (fs j).x.length ≤ 2000)) (fun i => 200 - (intOf i).toNat)
  case atStart => exact ⟨0, by omega, by omega, rfl, hide (fun j hj => by omega)⟩
  case round =>
    obtain ⟨k, hk, hk2, rfl, hS⟩ := hrel
    by_cases hlt : k < len
    · have hki : (k : Int) < (len : Int) := by omega
      have hd1 : decide ((k : Int) < (len : Int)) = true := by simpa using hki
      by_cases h200 : k < 200
      · have hd2 : decide ((k : Int) < 200) = true := by simp; omega
        rcases unhide HH with e0 | ⟨bl, off, rfl, hbl, hO⟩
        · omega
        obtain ⟨-, -, -, p3, hsl, -⟩ := hO k hlt
        obtain ⟨av, cv, ev⟩ := sl_slice hsl
        rw [ev] at p3
        clear ev hsl hO
        by_cases hx : (fs k).x.length ≤ 2000
        · have hd3 : decide ((2000 : Int) < ((fs k).x.length : Int)) = false := by simp; omega
          have HX := hide hx
          clear hx
          go_wp2
          go_round
          case rel => exact ⟨k + 1, by omega, by omega, by go_num, hide (fun j hj => by
            by_cases e : j = k
            · subst e; exact unhide HX
            · exact unhide hS j (by omega))⟩
          case measure => simp [intOf]; omega
        · have hd3 : decide ((2000 : Int) < ((fs k).x.length : Int)) = true := by simp; omega
          clear hx
          go_wp2
          go_ret
          exact ⟨⟨true, rfl, fun h => by cases h⟩, rfl⟩
      · have hd2 : decide ((k : Int) < 200) = false := by simp; omega
        have hd3 : decide ((150 : Int) < (len : Int)) = true := by simp; omega
        go_wp2
        go_ret
        exact ⟨⟨true, rfl, fun h => by cases h⟩, rfl⟩
    · have hd1 : decide ((k : Int) < (len : Int)) = false := by simp; omega
      by_cases h150 : 150 < len
      · have hd3 : decide ((150 : Int) < (len : Int)) = true := by simp; omega
        go_wp2
        go_ret
        exact ⟨⟨true, rfl, fun h => by cases h⟩, rfl⟩
      · have hd3 : decide ((150 : Int) < (len : Int)) = false := by simp; omega
        go_wp2
        go_ret
        exact ⟨⟨false, rfl, fun _ => ⟨by omega, fun i hi => unhide hS i (by omega)⟩⟩, rfl⟩

/-! ### diskBegun -/
theorem sl_new (w : World) (l : List Int) (c : Array Value) (hc : c.toList = U8 l) (t : TypeId) (fz : Nat × Nat) : Sl (w.alloc (.cells c t fz)) (.slice (some ⟨w.heap.size, 0, none⟩) l.length l.length) l := by
  refine .inr ⟨_, _, rfl, Nat.le_refl _, fun j u hj => ?_⟩
  have e : ((⟨w.heap.size, 0, none⟩ : Addr).add j) = ⟨w.heap.size, j, none⟩ := by simp [Addr.add]; omega
  have hb : (w.alloc (.cells c t fz)).heap[w.heap.size]? = some (.cells c t fz) := by
    show (w.heap.push _)[w.heap.size]? = _
    simp
  rw [e]
  simp only [World.cell?, hb]
  rw [← Array.getElem?_toList, hc]
  simp [U8, hj]
theorem okB_lit {l : List Int} (h : l.all (fun x => decide (0 ≤ x ∧ x < 256)) = true) : okB l := fun x hx => by
  have := List.all_eq_true.1 h x hx
  simpa using this
theorem kStr (l : List Int) (w : World) (v : Value) (h : Sl w v l) : (convert 27 9 v).run Try.prog w = .ok (.string (strOfNums l)) w :=
  str_conv h _ _ _ Try.underlying27 Try.underlying5 Try.underlying9

set_option maxRecDepth 100000 in
set_option maxHeartbeats 2000000 in
theorem dbegun_any (w : World) : Calls Try.prog 15 #[] w fun e w' => e = .returned (.bool true) ∧ Chg [] w w' := by
  have hcc : ∀ (W : World) (C : Array Value) (n c : Nat), (convert 27 27 (.slice (some ⟨W.heap.size, 0, none⟩) n c)).run Try.prog (W.alloc (.cells C 5)) = .ok (.slice (some ⟨W.heap.size, 0, none⟩) n c) (W.alloc (.cells C 5 (C.size, C.size + 1))) := fun W C n c => Lib.run_convert_bytes_const W _ _ C n c Try.underlying27 Try.underlying5
  go_enter Try.func15, Try.ntmps15
  go_wp2_with fail
  refine (dnew_any _).mono ?_
  rintro e w1 ⟨rfl, D1, G1⟩
  have z1 := D1.blk.lt
  go_wp2_with fail
  refine (dapp_any w.heap.size 0 _ [] w.heap.size 0 _ [120] _ (D1.alloc _) (sl_new w1 [120] _ rfl _ _) (okB_lit rfl) (by simp; omega)).mono ?_
  rintro e w2 ⟨rfl, v2, D2, g2, n2⟩
  have G2 := (G1.alloc _).trans g2 (fun x hx => .inr (D1.fp_ge (Nat.le_refl _) x hx))
  have f2 : apC 0 ([] : List Int).length ([120] : List Int).length 0 = 9 := rfl
  have f2' : apL 0 [] [120] 0 = [] := rfl
  rw [f2]
  rw [f2'] at D2
  clear f2 f2' g2 D1 G1 n2
  go_wp2_with fail
  refine (draise_any w.heap.size 0 _ _ _ _ D2 (by omega) (by omega)).mono ?_
  rintro e w3 ⟨rfl, D3, g3⟩
  have G3 := G2.trans g3 (by simp)
  have f3 : rsA 0 = 1 ∧ rsC 0 = 0 ∧ rsE 0 = 1 := ⟨rfl, rfl, rfl⟩
  rw [f3.1, f3.2.1]
  rw [f3.2.2] at D3
  clear f3 g3 D2 G2
  have z3 := G3.size
  go_wp2_with fail
  refine (dapp_any w.heap.size 1 _ [] w.heap.size 1 _ [120, 121, 122] _ (D3.alloc _) (sl_new w3 [120, 121, 122] _ rfl _ _) (okB_lit rfl) (by simp; omega)).mono ?_
  rintro e w4 ⟨rfl, v4, D4, g4, n4⟩
  have G4 := (G3.alloc _).trans g4 (fun x hx => .inr (D3.fp_ge (Nat.le_refl _) x hx))
  have f4 : apC 1 ([] : List Int).length ([120, 121, 122] : List Int).length 1 = 0 := rfl
  have f4' : apL 1 [] [120, 121, 122] 1 = [120, 121, 122] := rfl
  rw [f4]
  rw [f4'] at D4
  clear f4 f4' g4 D3 G3 n4
  go_wp2_with fail
  refine (draise_any w.heap.size 1 _ _ _ _ D4 (by omega) (by omega)).mono ?_
  rintro e w5 ⟨rfl, D5, g5⟩
  have G5 := G4.trans g5 (by simp)
  have f5 : rsA 1 = 2 ∧ rsC 1 = 0 ∧ rsE 1 = 2 := ⟨rfl, rfl, rfl⟩
  rw [f5.1, f5.2.1]
  rw [f5.2.2] at D5
  clear f5 g5 D4 G4
  have z5 := G5.size
  go_wp2_with fail
  refine (dapp_any w.heap.size 2 _ [120, 121, 122] w.heap.size 1 _ [117] _ (D5.alloc _) (sl_new w5 [117] _ rfl _ _) (okB_lit rfl) (by simp; omega)).mono ?_
  rintro e w6 ⟨rfl, v6, D6, g6, n6⟩
  have G6 := (G5.alloc _).trans g6 (fun x hx => .inr (D5.fp_ge (Nat.le_refl _) x hx))
  have f6 : apC 2 ([120, 121, 122] : List Int).length ([117] : List Int).length 1 = 9 := rfl
  have f6' : apL 2 [120, 121, 122] [117] 1 = [120, 121, 122] := rfl
  rw [f6]
  rw [f6'] at D6
  clear f6 f6' g6 D5 G5 n6
  go_wp2_with fail
  refine (dcut_any w.heap.size 2 _ [120, 121, 122] w.heap.size 2 2 _ D6).mono ?_
  rintro e w7 ⟨rfl, v7, D7, g7, n7⟩
  have G7 := G6.trans g7 (fun x hx => .inr (D6.fp_ge (Nat.le_refl _) x hx))
  have f7 : ctC 2 ([120, 121, 122] : List Int).length 2 2 = 0 := rfl
  have f7' : ctL 2 [120, 121, 122] 2 2 = [120, 121] := rfl
  rw [f7]
  rw [f7'] at D7
  clear f7 f7' g7 D6 G6 n7
  go_wp2_with (go_at_call 22; refine (dbytes_any w.heap.size 2 _ [120, 121] _ _ D7).mono ?_; rintro e w8 ⟨v8, rfl, own8, g8⟩; have hcv := kStr [120, 121] w8 v8 (own_sl own8); have D8 := D7.chg g8 (by simp); have G8 := G7.trans g8 (by simp); have hs : strOfNums [120, 121] = ⟨#[120, 121]⟩ := rfl; rw [hs] at hcv; clear hs own8 g8)
  refine (depoch_any w.heap.size 2 _ _ _ _ D8).mono ?_
  rintro e w9 ⟨rfl, rfl⟩
  go_wp2
  go_ret
  exact ⟨rfl, G8⟩

end Go.Proofs.Ytgcikokfgcpkfab

namespace Go.Proofs.Ytgcikokfgcpkfab
open Go.RowKit

theorem Dsk.low {ty e8 : TypeId} {w : World} {base base' b : Nat} {ep : Int} {v : Value} {l : List Int} (h : Dsk ty e8 w base b ep v l) (hb : base' ≤ base) : Dsk ty e8 w base' b ep v l :=
  ⟨h.blk, own_base h.own hb, h.few, h.ok, h.ne⟩
theorem Dsk.drew {ty e8 : TypeId} {w : World} {base b : Nat} {ep : Int} {v : Value} {l : List Int} (h : Dsk ty e8 w base b ep v l) : Dsk ty e8 w.drew base b ep v l :=
  h.chg ((Chg.refl [] w).drew) (by simp)
theorem rsE_bd {ep : Int} (h0 : 0 ≤ ep) (h1 : ep ≤ 100) : 0 ≤ rsE ep ∧ rsE ep ≤ 100 := by
  unfold rsE
  split <;> omega

theorem dapp_no (b : Nat) (ep : Int) (v : Value) (l : List Int) (base : Nat) (e0 : Int) (vx : Value) (w : World) (h : Dsk 103 5 w base b ep v l) (hf : fenB ep e0 = true) :
    Calls Try.prog 19 #[.pointer (some ⟨b, 0, none⟩), .int .i64 e0, vx] w fun e w' => e = .returned (.int .i64 9) ∧ w' = w := by
  have H := hide h
  clear h
  go_enter Try.func19, Try.ntmps19
  go_wp2_with (go_at_call 47; refine (dfen_any b ep v l base e0 _ (unhide H)).mono ?_; rintro e w1 ⟨rfl, rfl⟩)
  go_ret
  exact ⟨rfl, rfl⟩
theorem dcut_no (b : Nat) (ep : Int) (v : Value) (l : List Int) (base : Nat) (e0 k : Int) (w : World) (h : Dsk 103 5 w base b ep v l) (hf : fenB ep e0 = true) :
    Calls Try.prog 21 #[.pointer (some ⟨b, 0, none⟩), .int .i64 e0, .int .i64 k] w fun e w' => e = .returned (.int .i64 9) ∧ w' = w := by
  have H := hide h
  clear h
  go_enter Try.func21, Try.ntmps21
  go_wp2_with (go_at_call 47; refine (dfen_any b ep v l base e0 _ (unhide H)).mono ?_; rintro e w1 ⟨rfl, rfl⟩)
  go_ret
  exact ⟨rfl, rfl⟩

theorem fen_self {ep : Int} (h : 1 ≤ ep) : fenB ep ep = false := by simp [fenB]; omega
theorem fen_below {ep e : Int} (h : e < ep) : fenB ep e = true := by simp [fenB]; omega
theorem pickE (x : Int) : ∃ k : Nat, k ≤ 99 ∧ wrap64 ((IntKind.u64.wrap x).tmod 100) = k := by
  have h0 : 0 ≤ IntKind.u64.wrap x := by simp only [IntKind.wrap, IntKind.bits, IntKind.signed]; simp; omega
  have h1 : 0 ≤ (IntKind.u64.wrap x).tmod 100 := Int.tmod_nonneg _ h0
  have h2 : (IntKind.u64.wrap x).tmod 100 < 100 := Int.tmod_lt_of_pos _ (by omega)
  refine ⟨((IntKind.u64.wrap x).tmod 100).toNat, by omega, ?_⟩
  unfold wrap64
  omega
theorem dcut_zero (b : Nat) (ep : Int) (v : Value) (l : List Int) (base : Nat) (w : World) (h : Dsk 103 5 w base b ep v l) (h1 : 1 ≤ ep) :
    Calls Try.prog 21 #[.pointer (some ⟨b, 0, none⟩), .int .i64 ep, .int .i64 0] w fun e w' => e = .returned (.int .i64 0) ∧ ∃ v', Dsk 103 5 w' base b ep v' [] ∧ Chg (fp b v) w w' ∧ Nxt w v v' := by
  have := dcut_any b ep v l base ep 0 w h
  obtain ⟨e1, e2⟩ := ct_yes (fen_self h1) (l := l) (k := 0) (by omega)
  rw [e1, e2] at this
  exact this
theorem dapp_yes (b : Nat) (ep : Int) (v : Value) (l : List Int) (base : Nat) (vx : Value) (x : List Int) (w : World) (h : Dsk 103 5 w base b ep v l) (h1 : 1 ≤ ep) (hx : Sl w vx x) (hk : okB x) (hbase : base ≤ w.heap.size) (hn : l.length + x.length ≤ 1500) :
    Calls Try.prog 19 #[.pointer (some ⟨b, 0, none⟩), .int .i64 ep, vx] w fun e w' => e = .returned (.int .i64 0) ∧ ∃ v', Dsk 103 5 w' base b ep v' (l ++ x) ∧ Chg (fp b v) w w' ∧ Nxt w v v' := by
  have := dapp_any b ep v l base ep vx x w h hx hk hbase
  obtain ⟨e1, e2⟩ := ap_yes (fen_self h1) (l := l) (x := x) (by omega)
  rw [e1, e2] at this
  exact this
theorem draise_full (b : Nat) (v : Value) (l : List Int) (base : Nat) (w : World) (h : Dsk 103 5 w base b 100 v l) :
    Calls Try.prog 18 #[.pointer (some ⟨b, 0, none⟩)] w fun e w' => e = .returned (.tuple #[.int .i64 0, .int .i64 8]) ∧ Dsk 103 5 w' base b 100 v l ∧ Chg [b] w w' :=
  draise_any b 100 v l base w h (by omega) (by omega)
theorem draise_more (b : Nat) (ep : Int) (v : Value) (l : List Int) (base : Nat) (w : World) (h : Dsk 103 5 w base b ep v l) (h0 : 0 ≤ ep) (h1 : ¬ 100 ≤ ep) :
    Calls Try.prog 18 #[.pointer (some ⟨b, 0, none⟩)] w fun e w' => e = .returned (.tuple #[.int .i64 (ep + 1), .int .i64 0]) ∧ Dsk 103 5 w' base b (ep + 1) v l ∧ Chg [b] w w' := by
  have := draise_any b ep v l base w h h0 (by omega)
  obtain ⟨e1, e2, e3⟩ := rs_more h1
  rw [e1, e2, e3] at this
  exact this
theorem Blk.cells4 {w : World} {b : Nat} {v0 v1 v2 v3 : Value} {t : TypeId} (h : Blk w b #[v0, v1, v2, v3] t) :
    w.cell? ⟨b, 0, none⟩ = some v0 ∧ w.cell? ⟨b, 1, none⟩ = some v1 ∧ w.cell? ⟨b, 2, none⟩ = some v2 ∧ w.cell? ⟨b, 3, none⟩ = some v3 ∧ b < w.heap.size :=
  ⟨h.cell 0, h.cell 1, h.cell 2, h.cell 3, h.lt⟩

end Go.Proofs.Ytgcikokfgcpkfab

namespace Go.Proofs.Ytgcikokfgcpkfab
open Go.RowKit

theorem str_app (l x : List Int) : strOfNums l ++ strOfNums x = strOfNums (l ++ x) := by
  apply ByteArray.ext
  simp [strOfNums]
theorem str_take (l : List Int) (m : Nat) : (strOfNums l).extract 0 m = strOfNums (l.take m) := by
  apply ByteArray.ext
  simp [strOfNums, List.map_take]
theorem fen_wrap {ep se : Int} (r0 : -9223372036854775808 ≤ se) (r1 : se ≤ 9223372036854775807) (hs : ¬ se = 0) : fenB ep (wrap64 (ep - se)) = true := by
  have h : wrap64 (ep - se) ≠ ep := by
    unfold wrap64
    omega
  simp [fenB]
  exact .inr h
theorem own_m {w : World} {base : Nat} {e : TypeId} {size : Nat} {a : Option Addr} {m c n : Nat} {xs : List Value} (h : w.ownsRow base e size (.slice a m c) n xs) : m = n := by
  rcases h.2 with ⟨h, h0⟩ | ⟨g, c', _, h, _⟩
  · simp only [Value.slice.injEq] at h
    omega
  · simp only [Value.slice.injEq] at h
    omega
theorem own_some {w : World} {base : Nat} {e : TypeId} {size : Nat} {a : Option Addr} {m c n : Nat} {xs : List Value} (h : w.ownsRow base e size (.slice a m c) n xs) (hn : 0 < n) : ∃ g, a = some ⟨g, 0, none⟩ ∧ base ≤ g := by
  rcases h.2 with ⟨h, h0⟩ | ⟨g, c', _, h, hb, _⟩
  · omega
  · simp only [Value.slice.injEq] at h
    exact ⟨g, h.1, hb⟩
theorem dapp_full (b : Nat) (ep : Int) (v : Value) (l : List Int) (base : Nat) (vx : Value) (x : List Int) (w : World) (h : Dsk 103 5 w base b ep v l) (h1 : 1 ≤ ep) (hx : Sl w vx x) (hk : okB x) (hbase : base ≤ w.heap.size) (hn : 1500 < l.length + x.length) :
    Calls Try.prog 19 #[.pointer (some ⟨b, 0, none⟩), .int .i64 ep, vx] w fun e w' => e = .returned (.int .i64 8) ∧ ∃ v', Dsk 103 5 w' base b ep v' l ∧ Chg (fp b v) w w' ∧ Nxt w v v' := by
  have := dapp_any b ep v l base ep vx x w h hx hk hbase
  obtain ⟨e1, e2⟩ := ap_full (fen_self h1) (l := l) (x := x) hn
  rw [e1, e2] at this
  exact this
theorem dcut_rng (b : Nat) (ep : Int) (v : Value) (l : List Int) (base : Nat) (k : Int) (w : World) (h : Dsk 103 5 w base b ep v l) (h1 : 1 ≤ ep) (hk : k < 0 ∨ (l.length : Int) < k) :
    Calls Try.prog 21 #[.pointer (some ⟨b, 0, none⟩), .int .i64 ep, .int .i64 k] w fun e w' => e = .returned (.int .i64 3) ∧ ∃ v', Dsk 103 5 w' base b ep v' l ∧ Chg (fp b v) w w' ∧ Nxt w v v' := by
  have := dcut_any b ep v l base ep k w h
  obtain ⟨e1, e2⟩ := ct_range (fen_self h1) (l := l) hk
  rw [e1, e2] at this
  exact this
theorem dcut_yes (b : Nat) (ep : Int) (v : Value) (l : List Int) (base : Nat) (m : Nat) (w : World) (h : Dsk 103 5 w base b ep v l) (h1 : 1 ≤ ep) (hm : m ≤ l.length) :
    Calls Try.prog 21 #[.pointer (some ⟨b, 0, none⟩), .int .i64 ep, .int .i64 (m : Int)] w fun e w' => e = .returned (.int .i64 0) ∧ ∃ v', Dsk 103 5 w' base b ep v' (l.take m) ∧ Chg (fp b v) w w' ∧ Nxt w v v' := by
  have := dcut_any b ep v l base ep m w h
  obtain ⟨e1, e2⟩ := ct_yes (fen_self h1) (l := l) (k := m) (by omega)
  rw [e1, e2, Int.toNat_natCast] at this
  exact this

end Go.Proofs.Ytgcikokfgcpkfab

