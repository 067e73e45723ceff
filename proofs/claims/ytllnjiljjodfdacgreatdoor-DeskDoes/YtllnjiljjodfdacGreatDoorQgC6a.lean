/-
 Strings of bytes, the nine bytes of a record, and the records that codecBegun asks. Nothing here is claimed by itself.
-/
import Derived.Laws.BytesArg
import Derived.Laws.AppendOwnNone
import Derived.Test.YtllnjiljjodfdacGreatDoorQgC4
namespace Go.Proofs.YtllnjiljjodfdacGreatDoor
open Go.RowKit

theorem own_shape {w : World} {base : Nat} {e : TypeId} {size : Nat} {v : Value} {n : Nat} {xs : List Value} (h : w.ownsRow base e size v n xs) (hn : 0 < n) : ∃ g c, v = .slice (some ⟨g, 0, none⟩) n c ∧ n ≤ c ∧ base ≤ g ∧ g < w.heap.size := by
 have hl := h.lt
 obtain ⟨_, ⟨_, h0⟩ | ⟨g, c, cur, e1, hb, _, hc, _⟩⟩ := h
 ·omega
 ·exact ⟨g, c, e1, hc, hb, (hl g (by rw [e1]; rfl)).2⟩
def nine (r : Rc) : List Value := [.int .u8 (by9 r 0), .int .u8 (by9 r 1), .int .u8 (by9 r 2), .int .u8 (by9 r 3), .int .u8 (by9 r 4), .int .u8 (by9 r 5), .int .u8 (by9 r 6), .int .u8 (by9 r 7), .int .u8 (by9 r 8)]
theorem nine_at (r : Rc) (i : Nat) (hi : i < 9) : (nine r)[i]? = some (.int .u8 (by9 r i)) := by
 obtain rfl | rfl | rfl | rfl | rfl | rfl | rfl | rfl | rfl : i = 0 ∨ i = 1 ∨ i = 2 ∨ i = 3 ∨ i = 4 ∨ i = 5 ∨ i = 6 ∨ i = 7 ∨ i = 8 := by omega
 all_goals rfl
theorem Blk.seven {w : World} {b : Nat} {r : Rc} {t : TypeId} (h : Blk w b r.cells t) :
  w.cell? ⟨b, 0, none⟩ = some (.int .i64 r.ep) ∧ w.cell? ⟨b, 1, none⟩ = some (.int .i64 r.o.k) ∧ w.cell? ⟨b, 2, none⟩ = some (.int .i64 r.o.now) ∧ w.cell? ⟨b, 3, none⟩ = some (.int .i64 r.o.jb) ∧ w.cell? ⟨b, 4, none⟩ = some (.int .i64 r.o.tr) ∧ w.cell? ⟨b, 5, none⟩ = some (.int .i64 r.o.wk) ∧ w.cell? ⟨b, 6, none⟩ = some (.int .i64 r.o.tm) :=
 ⟨h.cell 0, h.cell 1, h.cell 2, h.cell 3, h.cell 4, h.cell 5, h.cell 6⟩
theorem enc_both (r : Rc) (w : World) :
  Calls Tryz.prog 150 #[.agg r.cells] w fun e w' => ∃ v, e = .returned (.tuple #[v, .int .i64 (ckR r)]) ∧ (ckR r ≠ 0 → v = .slice none 0 0) ∧
   (ckR r = 0 → ∃ g, v = .slice (some ⟨g, 0, none⟩) 9 9 ∧ w.heap.size ≤ g ∧ Blk w' g #[.int .u8 (by9 r 0), .int .u8 (by9 r 1), .int .u8 (by9 r 2), .int .u8 (by9 r 3), .int .u8 (by9 r 4), .int .u8 (by9 r 5), .int .u8 (by9 r 6), .int .u8 (by9 r 7), .int .u8 (by9 r 8)] 5) ∧ Chg [] w w' := by
 by_cases h : ckR r = 0
 ·refine (enc_yes r w h).mono ?_
  rintro e w' ⟨g, rfl, hg, hB, hc⟩
  exact ⟨_, by rw [h], fun h' => absurd h h', fun _ => ⟨g, rfl, hg, hB⟩, hc⟩
 ·refine (enc_no r w h).mono ?_
  rintro e w' ⟨rfl, hc⟩
  exact ⟨_, rfl, fun _ => rfl, fun h' => absurd h' h, hc⟩
theorem by_rd {f : Nat → Int} (hf : ∀ i, i < 9 → 0 ≤ f i ∧ f i < 256) (h8 : f 8 = sm f 8 % 251) (i : Nat) (hi : i < 9) : by9 (rdR f) i = f i := by
 have e8 : ∀ j, j < 8 → by8 (rdR f) j = f j := by
  intro j hj
  obtain rfl | rfl | rfl | rfl | rfl | rfl | rfl | rfl : j = 0 ∨ j = 1 ∨ j = 2 ∨ j = 3 ∨ j = 4 ∨ j = 5 ∨ j = 6 ∨ j = 7 := by omega
  ·rfl
  ·rfl
  ·show (f 2 * 256 + f 3) / 256 = f 2
   have := hf 3 (by omega); omega
  ·show (f 2 * 256 + f 3) % 256 = f 3
   have := hf 3 (by omega); omega
  ·rfl
  ·rfl
  ·rfl
  ·rfl
 unfold by9
 by_cases h : i < 8
 ·rw [if_pos h]; exact e8 i h
 ·obtain rfl : i = 8 := by omega
  rw [if_neg h, sm_congr 8 e8, h8]
def bytL (n : Nat) (f : Nat → Int) : List Value := (List.range n).map (fun i => Value.int .u8 (f i))
theorem bytL_len (n : Nat) (f : Nat → Int) : (bytL n f).length = n := by simp [bytL]
theorem bytL_at (n : Nat) (f : Nat → Int) (i : Nat) (hi : i < n) : (bytL n f)[i]? = some (.int .u8 (f i)) := by simp [bytL, hi]
theorem Byt.news {w : World} {ad : Addr} {n : Nat} {f : Nat → Int} (h : Byt w (some ad) n f) : ∀ (j : Nat) (u : Value), (bytL n f)[j]? = some u → w.cell? (ad.add j) = some u := by
 intro j u hj
 have hjn : j < n := by
  rcases Nat.lt_or_ge j n with h1 | h1
  ·exact h1
  ·rw [List.getElem?_eq_none (by rw [bytL_len]; exact h1)] at hj; cases hj
 obtain ⟨_, h0 | ⟨b, off, e, _, hc⟩⟩ := h
 ·omega
 ·simp at e
  subst e
  rw [bytL_at n f j hjn] at hj
  simp at hj
  subst hj
  have : ((⟨b, off, none⟩ : Addr).add j) = ⟨b, off + j, none⟩ := by unfold Addr.add; split <;> simp_all
  rw [this]
  exact hc j hjn
def RecAt (w : World) (bl off : Nat) (r : Rc) : Prop :=
 w.cell? ⟨bl, off, none⟩ = some (.int .i64 r.ep) ∧ w.cell? ⟨bl, off + 1, none⟩ = some (.int .i64 r.o.k) ∧ w.cell? ⟨bl, off + 2, none⟩ = some (.int .i64 r.o.now) ∧ w.cell? ⟨bl, off + 3, none⟩ = some (.int .i64 r.o.jb) ∧
 w.cell? ⟨bl, off + 4, none⟩ = some (.int .i64 r.o.tr) ∧ w.cell? ⟨bl, off + 5, none⟩ = some (.int .i64 r.o.wk) ∧ w.cell? ⟨bl, off + 6, none⟩ = some (.int .i64 r.o.tm)
def Recs (w : World) (a : Option Addr) (n : Nat) (fs : Nat → Rc) : Prop :=
 n = 0 ∨ ∃ bl off, a = some ⟨bl, off, none⟩ ∧ bl < w.heap.size ∧ ∀ i, i < n → RecAt w bl (off + i * 7) (fs i)
theorem RecAt.chg {w w' : World} {bl off : Nat} {r : Rc} (h : RecAt w bl off r) (k : Chg [] w w') (hl : bl < w.heap.size) : RecAt w' bl off r := by
 obtain ⟨h0, h1, h2, h3, h4, h5, h6⟩ := h
 exact ⟨by rw [k.cell' hl (by simp)]; exact h0, by rw [k.cell' hl (by simp)]; exact h1, by rw [k.cell' hl (by simp)]; exact h2, by rw [k.cell' hl (by simp)]; exact h3, by rw [k.cell' hl (by simp)]; exact h4, by rw [k.cell' hl (by simp)]; exact h5, by rw [k.cell' hl (by simp)]; exact h6⟩
theorem Recs.chg {w w' : World} {a : Option Addr} {n : Nat} {fs : Nat → Rc} (h : Recs w a n fs) (k : Chg [] w w') : Recs w' a n fs := by
 rcases h with h | ⟨bl, off, e, hb, hc⟩
 ·exact .inl h
 ·exact .inr ⟨bl, off, e, Nat.lt_of_lt_of_le hb k.size, fun i hi => (hc i hi).chg k hb⟩
theorem Recs.le {w : World} {a : Option Addr} {n m : Nat} {fs : Nat → Rc} (h : Recs w a n fs) (hm : m ≤ n) : Recs w a m fs := by
 rcases h with h | ⟨bl, off, e, hb, hc⟩
 ·exact .inl (by omega)
 ·exact .inr ⟨bl, off, e, hb, fun i hi => hc i (by omega)⟩
def atR (l : List Rc) (i : Nat) : Rc := l.getD i rc0
theorem cellsR_at : ∀ (l : List Rc) (i j : Nat), i < l.length → j < 7 → (cellsR l)[i * 7 + j]? = ((atR l i).list)[j]?
 | [], _, _, h, _ => by simp at h
 | r :: l, 0, j, _, hj => by
  simp only [cellsR, List.flatMap_cons, Nat.zero_mul, Nat.zero_add]
  rw [List.getElem?_append_left (by simpa [Rc.list] using hj)]
  rfl
 | r :: l, i + 1, j, h, hj => by
  have ih := cellsR_at l i j (by simpa using h) hj
  simp only [cellsR, List.flatMap_cons]
  rw [List.getElem?_append_right (by simp [Rc.list]; omega)]
  have e : (i + 1) * 7 + j - r.list.length = i * 7 + j := by simp [Rc.list]; omega
  rw [e]
  exact ih
theorem own_recs {w : World} {base : Nat} {e : TypeId} {v : Value} {l : List Rc} {n : Nat} (h : w.ownsRow base e 7 v n (cellsR l)) (hn : n = l.length) : ∃ a c, v = .slice a n c ∧ n ≤ c ∧ (a = none → n = 0 ∧ c = 0) ∧ Recs w a n (atR l) := by
 by_cases h0 : n = 0
 ·obtain ⟨_, ⟨rfl, _⟩ | ⟨g, c, cur, rfl, _, _, hc, _⟩⟩ := h
  ·exact ⟨none, 0, by rw [h0], by omega, fun _ => ⟨h0, rfl⟩, .inl h0⟩
  ·exact ⟨_, c, rfl, hc, (fun e => by simp at e), .inl h0⟩
 ·obtain ⟨g, c, rfl, hc, _, hg⟩ := own_shape h (by omega)
  refine ⟨_, c, rfl, hc, (fun e => by simp at e), .inr ⟨g, 0, rfl, hg, fun i hi => ?_⟩⟩
  have cell : ∀ j, j < 7 → w.cell? ⟨g, 0 + i * 7 + j, none⟩ = ((atR l i).list)[j]? := by
   intro j hj
   have h1 := cellsR_at l i j (by omega) hj
   obtain ⟨u, hu⟩ : ∃ u, ((atR l i).list)[j]? = some u := ⟨((atR l i).list)[j]'(by simpa [Rc.list] using hj), by rw [List.getElem?_eq_getElem]⟩
   rw [hu] at h1 ⊢
   have := h.cells (g := g) rfl _ _ h1
   have e2 : ((⟨g, 0, none⟩ : Addr).add (i * 7 + j)) = ⟨g, 0 + i * 7 + j, none⟩ := by simp [Addr.add]; omega
   rw [e2] at this
   exact this
  exact ⟨cell 0 (by omega), cell 1 (by omega), cell 2 (by omega), cell 3 (by omega), cell 4 (by omega), cell 5 (by omega), cell 6 (by omega)⟩
def goodF : Int → List Rc → Prop
 | _, [] => True
 | ep, r :: t => ckR r = 0 ∧ ep ≤ r.ep ∧ goodF r.ep t
def lastE : Int → List Rc → Int
 | ep, [] => ep
 | _, r :: t => lastE r.ep t
theorem goodF_snoc {r : Rc} (hr : ckR r = 0) : ∀ (rs : List Rc) (ep : Int), goodF ep rs → lastE ep rs ≤ r.ep → goodF ep (rs ++ [r])
 | [], _, _, h => ⟨hr, h, trivial⟩
 | q :: t, _, ⟨h1, h2, h3⟩, h => ⟨h1, h2, goodF_snoc hr t q.ep h3 h⟩
theorem lastE_at : ∀ (rs : List Rc) (ep : Int) (m : Nat), rs.length = m + 1 → lastE ep rs = (atR rs m).ep
 | [], _, _, h => by simp at h
 | [q], _, m, h => by
  simp at h
  subst h
  rfl
 | q :: p :: t, _, m, h => by
  obtain ⟨m, rfl⟩ : ∃ x, m = x + 1 := ⟨m - 1, by simp at h; omega⟩
  have := lastE_at (p :: t) q.ep m (by simpa using h)
  simp only [lastE] at this ⊢
  rw [this]
  rfl
def byF (l : List Rc) (i : Nat) : Int := by9 (atR l (i / 9)) (i % 9)
theorem dec_few {k : Nat} (h : k < 9) (F : Nat → Int) : dec k F = (rc0, 7) := by unfold dec; rw [if_pos h]
theorem Byt.le {w : World} {a : Option Addr} {n m : Nat} {f : Nat → Int} (h : Byt w a n f) (hm : m ≤ n) : Byt w a m f :=
 ⟨fun i hi => h.1 i (by omega), h.2.elim (fun h0 => .inl (by omega)) (fun ⟨b, off, e, hb, hc⟩ => .inr ⟨b, off, e, hb, fun i hi => hc i (by omega)⟩)⟩
theorem atR_take (l : List Rc) (n i : Nat) (h : i < n) : atR (l.take n) i = atR l i := by
 unfold atR
 simp [List.getD, List.getElem?_take_of_lt h]
theorem Recs.congr {w : World} {a : Option Addr} {n : Nat} {fs gs : Nat → Rc} (h : Recs w a n fs) (e : ∀ i, i < n → fs i = gs i) : Recs w a n gs :=
 h.imp id (fun ⟨b, off, ea, hb, hc⟩ => ⟨b, off, ea, hb, fun i hi => e i hi ▸ hc i hi⟩)
end Go.Proofs.YtllnjiljjodfdacGreatDoor
