/-
  Strings of bytes, the nine bytes of a record, and the records that codecBegun asks. Nothing here is claimed by itself.
-/
import Derived.Laws.BytesArg
import Derived.Laws.AppendOwnNone
import Derived.Test.YtllnjiljjodfdacGreatDoorMgC4
namespace Go.Proofs.YtllnjiljjodfdacGreatDoor
open Go.RowKit

theorem own_shape {w : World} {base : Nat} {e : TypeId} {size : Nat} {v : Value} {n : Nat} {xs : List Value} (h : w.ownsRow base e size v n xs) (hn : 0 < n) : ∃ g c, v = .slice (some ⟨g, 0, none⟩) n c ∧ n ≤ c ∧ base ≤ g ∧ g < w.heap.size := by
  have hl := h.lt
  obtain ⟨_, ⟨_, h0⟩ | ⟨g, c, cur, e1, hb, _, hc, _⟩⟩ := h
  · omega
  · exact ⟨g, c, e1, hc, hb, (hl g (by rw [e1]; rfl)).2⟩

def strB (n : Nat) (f : Nat → Int) : ByteArray := strOfNums ((List.range n).map f)
theorem Byt.str {w : World} {b off n cap : Nat} {f : Nat → Int} (hc : ∀ i, i < n → w.cell? ⟨b, off + i, none⟩ = some (.int .u8 (f i))) :
    (convert 42 9 (.slice (some ⟨b, off, none⟩) n cap)).run Tryz.prog w = .ok (.string (strB n f)) w := by
  refine run_convert_bytes_arg w 42 5 Tryz.underlying42 Tryz.underlying5 b off n cap ((List.range n).map f) (by simp) (fun i hi => ?_) 9 Tryz.underlying9
  rw [hc i hi]
  simp [List.getD, hi]

def nine (r : Rc) : List Value := [.int .u8 (by9 r 0), .int .u8 (by9 r 1), .int .u8 (by9 r 2), .int .u8 (by9 r 3), .int .u8 (by9 r 4), .int .u8 (by9 r 5), .int .u8 (by9 r 6), .int .u8 (by9 r 7), .int .u8 (by9 r 8)]
theorem nine_at (r : Rc) (i : Nat) (hi : i < 9) : (nine r)[i]? = some (.int .u8 (by9 r i)) := by
  obtain rfl | rfl | rfl | rfl | rfl | rfl | rfl | rfl | rfl : i = 0 ∨ i = 1 ∨ i = 2 ∨ i = 3 ∨ i = 4 ∨ i = 5 ∨ i = 6 ∨ i = 7 ∨ i = 8 := by omega
  all_goals rfl
theorem nine_cell {w : World} {g : Nat} {r : Rc} {t : TypeId} (h : Blk w g #[.int .u8 (by9 r 0), .int .u8 (by9 r 1), .int .u8 (by9 r 2), .int .u8 (by9 r 3), .int .u8 (by9 r 4), .int .u8 (by9 r 5), .int .u8 (by9 r 6), .int .u8 (by9 r 7), .int .u8 (by9 r 8)] t) (i : Nat) (hi : i < 9) :
    w.cell? ⟨g, 0 + i, none⟩ = some (.int .u8 (by9 r i)) := by
  rw [Nat.zero_add, h.cell]
  obtain rfl | rfl | rfl | rfl | rfl | rfl | rfl | rfl | rfl : i = 0 ∨ i = 1 ∨ i = 2 ∨ i = 3 ∨ i = 4 ∨ i = 5 ∨ i = 6 ∨ i = 7 ∨ i = 8 := by omega
  all_goals rfl
theorem nine_len (r : Rc) : (nine r).length = 9 := rfl
theorem nine_one (r : Rc) : ∀ u ∈ nine r, u.oneCell' = true := by simp [nine, Value.oneCell']
theorem Blk.seven {w : World} {b : Nat} {r : Rc} {t : TypeId} (h : Blk w b r.cells t) :
    w.cell? ⟨b, 0, none⟩ = some (.int .i64 r.ep) ∧ w.cell? ⟨b, 1, none⟩ = some (.int .i64 r.o.k) ∧ w.cell? ⟨b, 2, none⟩ = some (.int .i64 r.o.now) ∧ w.cell? ⟨b, 3, none⟩ = some (.int .i64 r.o.jb) ∧ w.cell? ⟨b, 4, none⟩ = some (.int .i64 r.o.tr) ∧ w.cell? ⟨b, 5, none⟩ = some (.int .i64 r.o.wk) ∧ w.cell? ⟨b, 6, none⟩ = some (.int .i64 r.o.tm) :=
  ⟨h.cell 0, h.cell 1, h.cell 2, h.cell 3, h.cell 4, h.cell 5, h.cell 6⟩

def rB : Rc := ⟨3, ⟨2, 258, 0, 0, 1, 7⟩⟩
theorem rB_ck : ckR rB = 0 := by decide
theorem rB_str : strB 9 (by9 rB) = ⟨#[3, 2, 1, 2, 0, 0, 1, 7, 82]⟩ := by decide
def fB1 (i : Nat) : Int := if i < 9 then by9 rB i else 9
def fB2 (i : Nat) : Int := if i < 9 then by9 rB i else by9 rB (i - 9)
theorem fB1_dec : dec 10 fB1 = (rB, 0) := dec_by rB_ck (by omega) (fun i hi => by simp [fB1, hi])
theorem fB1_bd (i : Nat) (_ : i < 10) : 0 ≤ fB1 i ∧ fB1 i < 256 := by
  unfold fB1; split
  · exact by9_bd rB_ck i
  · omega
theorem fB2_bd (i : Nat) (_ : i < 18) : 0 ≤ fB2 i ∧ fB2 i < 256 := by
  unfold fB2; split
  · exact by9_bd rB_ck i
  · exact by9_bd rB_ck _
theorem fB2_all : allR 18 fB2 = [rB, rB] := by
  have e1 : dec 18 fB2 = (rB, 0) := dec_by rB_ck (by omega) (fun i hi => by simp [fB2, hi])
  have e2 : dec 9 (fun i => fB2 (i + 9)) = (rB, 0) := dec_by rB_ck (by omega) (fun i hi => by simp only [fB2]; rw [if_neg (by omega), Nat.add_sub_cancel])
  have e3 : ∀ f, dec 0 f = (rc0, 7) := fun f => by unfold dec; rw [if_pos (by omega)]
  unfold allR
  rw [allF, e1, if_neg (by decide), allF, e2, if_neg (by decide), allF, e3, if_pos (by decide)]
theorem fB1_at (i : Nat) (hi : i < 10) : ((nine rB) ++ [.int .u8 9])[i]? = some (.int .u8 (fB1 i)) := by
  unfold fB1
  by_cases h : i < 9
  · rw [if_pos h, List.getElem?_append_left (by rw [nine_len]; exact h)]; exact nine_at rB i h
  · obtain rfl : i = 9 := by omega
    rfl
theorem fB2_at (i : Nat) (hi : i < 18) : ((nine rB) ++ (nine rB))[i]? = some (.int .u8 (fB2 i)) := by
  unfold fB2
  by_cases h : i < 9
  · rw [if_pos h, List.getElem?_append_left (by rw [nine_len]; exact h)]; exact nine_at rB i h
  · rw [if_neg h, List.getElem?_append_right (by rw [nine_len]; omega), nine_len]; exact nine_at rB _ (by omega)

end Go.Proofs.YtllnjiljjodfdacGreatDoor

namespace Go.Proofs.YtllnjiljjodfdacGreatDoor
open Go.RowKit

theorem enc_both (r : Rc) (w : World) :
    Calls Tryz.prog 150 #[.agg r.cells] w fun e w' => ∃ v, e = .returned (.tuple #[v, .int .i64 (ckR r)]) ∧ (ckR r ≠ 0 → v = .slice none 0 0) ∧
      (ckR r = 0 → ∃ g, v = .slice (some ⟨g, 0, none⟩) 9 9 ∧ w.heap.size ≤ g ∧ Blk w' g #[.int .u8 (by9 r 0), .int .u8 (by9 r 1), .int .u8 (by9 r 2), .int .u8 (by9 r 3), .int .u8 (by9 r 4), .int .u8 (by9 r 5), .int .u8 (by9 r 6), .int .u8 (by9 r 7), .int .u8 (by9 r 8)] 5) ∧ Chg [] w w' := by
  by_cases h : ckR r = 0
  · refine (enc_yes r w h).mono ?_
    rintro e w' ⟨g, rfl, hg, hB, hc⟩
    exact ⟨_, by rw [h], fun h' => absurd h h', fun _ => ⟨g, rfl, hg, hB⟩, hc⟩
  · refine (enc_no r w h).mono ?_
    rintro e w' ⟨rfl, hc⟩
    exact ⟨_, rfl, fun _ => rfl, fun h' => absurd h' h, hc⟩

theorem dec_not {n : Nat} {f : Nat → Int} (h : (dec n f).2 ≠ 0) : dec n f = (rc0, (dec n f).2) := by
  unfold dec at h ⊢
  split
  · rfl
  rename_i h1
  rw [if_neg h1] at h
  split
  · rfl
  rename_i h2
  rw [if_neg h2] at h
  split
  · rfl
  rename_i h3
  rw [if_neg h3] at h
  exact absurd rfl h

theorem by_rd {f : Nat → Int} (hf : ∀ i, i < 9 → 0 ≤ f i ∧ f i < 256) (h8 : f 8 = sm f 8 % 251) (i : Nat) (hi : i < 9) : by9 (rdR f) i = f i := by
  have e8 : ∀ j, j < 8 → by8 (rdR f) j = f j := by
    intro j hj
    obtain rfl | rfl | rfl | rfl | rfl | rfl | rfl | rfl : j = 0 ∨ j = 1 ∨ j = 2 ∨ j = 3 ∨ j = 4 ∨ j = 5 ∨ j = 6 ∨ j = 7 := by omega
    · rfl
    · rfl
    · show (f 2 * 256 + f 3) / 256 = f 2
      have := hf 3 (by omega); omega
    · show (f 2 * 256 + f 3) % 256 = f 3
      have := hf 3 (by omega); omega
    · rfl
    · rfl
    · rfl
    · rfl
  unfold by9
  by_cases h : i < 8
  · rw [if_pos h]; exact e8 i h
  · obtain rfl : i = 8 := by omega
    rw [if_neg h, sm_congr 8 e8, h8]

theorem strB_congr {n : Nat} {f g : Nat → Int} (h : ∀ i, i < n → f i = g i) : strB n f = strB n g := by
  unfold strB
  congr 1
  apply List.map_congr_left
  intro i hi
  exact h i (by simpa using hi)
theorem strB_inj {n : Nat} {f g : Nat → Int} (hf : ∀ i, i < n → 0 ≤ f i ∧ f i < 256) (hg : ∀ i, i < n → 0 ≤ g i ∧ g i < 256) (h : strB n f = strB n g) : ∀ i, i < n → f i = g i := by
  intro i hi
  have h1 := congrArg (fun b => b.data.toList) h
  simp only [strB, strOfNums_data] at h1
  have h2 := congrArg (fun l => l[i]?) h1
  simp [hi] at h2
  have a := hf i hi
  have b := hg i hi
  have h3 := congrArg UInt8.toNat h2
  simp at h3
  omega
theorem by9_inj {r q : Rc} (h : ∀ i, i < 9 → by9 r i = by9 q i) : r = q := by
  rw [← rd_by (r := r), ← rd_by (r := q)]
  unfold rdR
  rw [h 0 (by omega), h 1 (by omega), h 2 (by omega), h 3 (by omega), h 4 (by omega), h 5 (by omega), h 6 (by omega), h 7 (by omega)]
theorem str_eq {r q : Rc} (hr : ckR r = 0) (hq : ckR q = 0) : strB 9 (by9 r) = strB 9 (by9 q) ↔ r = q :=
  ⟨fun h => by9_inj (strB_inj (fun i _ => by9_bd hr i) (fun i _ => by9_bd hq i) h), fun h => by rw [h]⟩

theorem str_ne {r q : Rc} (hr : ckR r = 0) (hq : ckR q = 0) (h : r ≠ q) : ((strB 9 (by9 r)).toList == (strB 9 (by9 q)).toList) = false := by
  rw [beq_eq_false_iff_ne]
  intro e
  rw [ByteArray.toList_eq, ByteArray.toList_eq] at e
  have e1 : (strB 9 (by9 r)) = strB 9 (by9 q) := ByteArray.ext (Array.toList_inj.1 e)
  exact h ((str_eq hr hq).1 e1)
theorem rec_ne {r q : Rc} (h : r ≠ q) : ¬ r.ep = q.ep ∨ (r.ep = q.ep ∧ ¬ r.o.k = q.o.k) ∨ (r.ep = q.ep ∧ r.o.k = q.o.k ∧ ¬ r.o.now = q.o.now) ∨ (r.ep = q.ep ∧ r.o.k = q.o.k ∧ r.o.now = q.o.now ∧ ¬ r.o.jb = q.o.jb) ∨
    (r.ep = q.ep ∧ r.o.k = q.o.k ∧ r.o.now = q.o.now ∧ r.o.jb = q.o.jb ∧ ¬ r.o.tr = q.o.tr) ∨ (r.ep = q.ep ∧ r.o.k = q.o.k ∧ r.o.now = q.o.now ∧ r.o.jb = q.o.jb ∧ r.o.tr = q.o.tr ∧ ¬ r.o.wk = q.o.wk) ∨
    (r.ep = q.ep ∧ r.o.k = q.o.k ∧ r.o.now = q.o.now ∧ r.o.jb = q.o.jb ∧ r.o.tr = q.o.tr ∧ r.o.wk = q.o.wk ∧ ¬ r.o.tm = q.o.tm) := by
  by_cases h0 : r.ep = q.ep
  · by_cases h1 : r.o.k = q.o.k
    · by_cases h2 : r.o.now = q.o.now
      · by_cases h3 : r.o.jb = q.o.jb
        · by_cases h4 : r.o.tr = q.o.tr
          · by_cases h5 : r.o.wk = q.o.wk
            · by_cases h6 : r.o.tm = q.o.tm
              · exact absurd (Rc.ext' h0 (Od.ext' h1 h2 h3 h4 h5 h6)) h
              · simp [h0, h1, h2, h3, h4, h5, h6]
            · simp [h0, h1, h2, h3, h4, h5]
          · simp [h0, h1, h2, h3, h4]
        · simp [h0, h1, h2, h3]
      · simp [h0, h1, h2]
    · simp [h0, h1]
  · simp [h0]
def bytL (n : Nat) (f : Nat → Int) : List Value := (List.range n).map (fun i => Value.int .u8 (f i))
theorem bytL_len (n : Nat) (f : Nat → Int) : (bytL n f).length = n := by simp [bytL]
theorem bytL_at (n : Nat) (f : Nat → Int) (i : Nat) (hi : i < n) : (bytL n f)[i]? = some (.int .u8 (f i)) := by simp [bytL, hi]
theorem bytL_one (n : Nat) (f : Nat → Int) : ∀ u ∈ bytL n f, u.oneCell' = true := by
  intro u hu
  obtain ⟨i, _, rfl⟩ := List.mem_map.1 hu
  rfl
theorem Byt.news {w : World} {ad : Addr} {n : Nat} {f : Nat → Int} (h : Byt w (some ad) n f) : ∀ (j : Nat) (u : Value), (bytL n f)[j]? = some u → w.cell? (ad.add j) = some u := by
  intro j u hj
  have hjn : j < n := by
    rcases Nat.lt_or_ge j n with h1 | h1
    · exact h1
    · rw [List.getElem?_eq_none (by rw [bytL_len]; exact h1)] at hj; cases hj
  obtain ⟨_, h0 | ⟨b, off, e, _, hc⟩⟩ := h
  · omega
  · simp at e
    subst e
    rw [bytL_at n f j hjn] at hj
    simp at hj
    subst hj
    have : ((⟨b, off, none⟩ : Addr).add j) = ⟨b, off + j, none⟩ := by unfold Addr.add; split <;> simp_all
    rw [this]
    exact hc j hjn
/-- The bytes f with the bytes g behind its first m. -/
def catB (m : Nat) (f g : Nat → Int) : Nat → Int := fun i => if i < m then f i else g (i - m)
theorem catB_bd {m n : Nat} {f g : Nat → Int} (hf : ∀ i, i < m → 0 ≤ f i ∧ f i < 256) (hg : ∀ i, i < n → 0 ≤ g i ∧ g i < 256) (i : Nat) (hi : i < m + n) : 0 ≤ catB m f g i ∧ catB m f g i < 256 := by
  unfold catB; split
  · exact hf i ‹_›
  · exact hg _ (by omega)
theorem catB_at {m n : Nat} {f g : Nat → Int} {xs ys : List Value} (hl : xs.length = m) (hx : ∀ i, i < m → xs[i]? = some (.int .u8 (f i))) (hy : ∀ i, i < n → ys[i]? = some (.int .u8 (g i))) (i : Nat) (hi : i < m + n) : (xs ++ ys)[i]? = some (.int .u8 (catB m f g i)) := by
  unfold catB
  by_cases h : i < m
  · rw [if_pos h, List.getElem?_append_left (by omega)]; exact hx i h
  · rw [if_neg h, List.getElem?_append_right (by omega), hl]; exact hy _ (by omega)
theorem cat_dec {r : Rc} (h : ckR r = 0) (n : Nat) (g : Nat → Int) : dec (9 + n) (catB 9 (by9 r) g) = (r, 0) := dec_by h (by omega) (fun i hi => by simp [catB, hi])

end Go.Proofs.YtllnjiljjodfdacGreatDoor

namespace Go.Proofs.YtllnjiljjodfdacGreatDoor
open Go.RowKit

def RecAt (w : World) (bl off : Nat) (r : Rc) : Prop :=
  w.cell? ⟨bl, off, none⟩ = some (.int .i64 r.ep) ∧ w.cell? ⟨bl, off + 1, none⟩ = some (.int .i64 r.o.k) ∧ w.cell? ⟨bl, off + 2, none⟩ = some (.int .i64 r.o.now) ∧ w.cell? ⟨bl, off + 3, none⟩ = some (.int .i64 r.o.jb) ∧
  w.cell? ⟨bl, off + 4, none⟩ = some (.int .i64 r.o.tr) ∧ w.cell? ⟨bl, off + 5, none⟩ = some (.int .i64 r.o.wk) ∧ w.cell? ⟨bl, off + 6, none⟩ = some (.int .i64 r.o.tm)
def Recs (w : World) (a : Option Addr) (n : Nat) (fs : Nat → Rc) : Prop :=
  n = 0 ∨ ∃ bl off, a = some ⟨bl, off, none⟩ ∧ bl < w.heap.size ∧ ∀ i, i < n → RecAt w bl (off + i * 7) (fs i)

theorem RecAt.chg {w w' : World} {bl off : Nat} {r : Rc} (h : RecAt w bl off r) (k : Chg [] w w') (hl : bl < w.heap.size) : RecAt w' bl off r := by
  obtain ⟨h0, h1, h2, h3, h4, h5, h6⟩ := h
  exact ⟨by rw [k.cell' hl (by simp)]; exact h0, by rw [k.cell' hl (by simp)]; exact h1, by rw [k.cell' hl (by simp)]; exact h2, by rw [k.cell' hl (by simp)]; exact h3, by rw [k.cell' hl (by simp)]; exact h4, by rw [k.cell' hl (by simp)]; exact h5, by rw [k.cell' hl (by simp)]; exact h6⟩
theorem Recs.chg {w w' : World} {a : Option Addr} {n : Nat} {fs : Nat → Rc} (h : Recs w a n fs) (k : Chg [] w w') : Recs w' a n fs := by
  rcases h with h | ⟨bl, off, e, hb, hc⟩
  · exact .inl h
  · exact .inr ⟨bl, off, e, Nat.lt_of_lt_of_le hb k.size, fun i hi => (hc i hi).chg k hb⟩
theorem Recs.le {w : World} {a : Option Addr} {n m : Nat} {fs : Nat → Rc} (h : Recs w a n fs) (hm : m ≤ n) : Recs w a m fs := by
  rcases h with h | ⟨bl, off, e, hb, hc⟩
  · exact .inl (by omega)
  · exact .inr ⟨bl, off, e, hb, fun i hi => hc i (by omega)⟩

def atR (l : List Rc) (i : Nat) : Rc := l.getD i rc0
theorem cellsR_at : ∀ (l : List Rc) (i j : Nat), i < l.length → j < 7 → (cellsR l)[i * 7 + j]? = ((atR l i).list)[j]?
  | [], _, _, h, _ => by simp at h
  | r :: l, 0, j, _, hj => by
    simp only [cellsR, List.flatMap_cons, Nat.zero_mul, Nat.zero_add]
    rw [List.getElem?_append_left (by simpa [Rc.list] using hj)]
    rfl
  | r :: l, i + 1, j, h, hj => by
    have ih := cellsR_at l i j (by simpa using h) hj
    simp only [cellsR, List.flatMap_cons]
    rw [List.getElem?_append_right (by simp [Rc.list]; omega)]
    have e : (i + 1) * 7 + j - r.list.length = i * 7 + j := by simp [Rc.list]; omega
    rw [e]
    exact ih

theorem own_recs {w : World} {base : Nat} {e : TypeId} {v : Value} {l : List Rc} {n : Nat} (h : w.ownsRow base e 7 v n (cellsR l)) (hn : n = l.length) : ∃ a c, v = .slice a n c ∧ n ≤ c ∧ (a = none → n = 0 ∧ c = 0) ∧ Recs w a n (atR l) := by
  by_cases h0 : n = 0
  · obtain ⟨_, ⟨rfl, _⟩ | ⟨g, c, cur, rfl, _, _, hc, _⟩⟩ := h
    · exact ⟨none, 0, by rw [h0], by omega, fun _ => ⟨h0, rfl⟩, .inl h0⟩
    · exact ⟨_, c, rfl, hc, (fun e => by simp at e), .inl h0⟩
  · obtain ⟨g, c, rfl, hc, _, hg⟩ := own_shape h (by omega)
    refine ⟨_, c, rfl, hc, (fun e => by simp at e), .inr ⟨g, 0, rfl, hg, fun i hi => ?_⟩⟩
    have cell : ∀ j, j < 7 → w.cell? ⟨g, 0 + i * 7 + j, none⟩ = ((atR l i).list)[j]? := by
      intro j hj
      have h1 := cellsR_at l i j (by omega) hj
      obtain ⟨u, hu⟩ : ∃ u, ((atR l i).list)[j]? = some u := ⟨((atR l i).list)[j]'(by simpa [Rc.list] using hj), by rw [List.getElem?_eq_getElem]⟩
      rw [hu] at h1 ⊢
      have := h.cells (g := g) rfl _ _ h1
      have e2 : ((⟨g, 0, none⟩ : Addr).add (i * 7 + j)) = ⟨g, 0 + i * 7 + j, none⟩ := by simp [Addr.add]; omega
      rw [e2] at this
      exact this
    exact ⟨cell 0 (by omega), cell 1 (by omega), cell 2 (by omega), cell 3 (by omega), cell 4 (by omega), cell 5 (by omega), cell 6 (by omega)⟩


end Go.Proofs.YtllnjiljjodfdacGreatDoor

namespace Go.Proofs.YtllnjiljjodfdacGreatDoor
open Go.RowKit

def goodF : Int → List Rc → Prop
  | _, [] => True
  | ep, r :: t => ckR r = 0 ∧ ep ≤ r.ep ∧ goodF r.ep t
def lastE : Int → List Rc → Int
  | ep, [] => ep
  | _, r :: t => lastE r.ep t
theorem goodF_snoc {r : Rc} (hr : ckR r = 0) : ∀ (rs : List Rc) (ep : Int), goodF ep rs → lastE ep rs ≤ r.ep → goodF ep (rs ++ [r])
  | [], _, _, h => ⟨hr, h, trivial⟩
  | q :: t, _, ⟨h1, h2, h3⟩, h => ⟨h1, h2, goodF_snoc hr t q.ep h3 h⟩
theorem lastE_at : ∀ (rs : List Rc) (ep : Int) (m : Nat), rs.length = m + 1 → lastE ep rs = (atR rs m).ep
  | [], _, _, h => by simp at h
  | [q], _, m, h => by
    simp at h
    subst h
    rfl
  | q :: p :: t, _, m, h => by
    obtain ⟨m, rfl⟩ : ∃ x, m = x + 1 := ⟨m - 1, by simp at h; omega⟩
    have := lastE_at (p :: t) q.ep m (by simpa using h)
    simp only [lastE] at this ⊢
    rw [this]
    rfl
theorem goodF_at : ∀ (rs : List Rc) (ep : Int), goodF ep rs → ∀ i, i < rs.length → ckR (atR rs i) = 0
  | [], _, _, i, hi => by simp at hi
  | q :: t, _, ⟨h1, _, _⟩, 0, _ => h1
  | q :: t, _, ⟨_, _, h3⟩, i + 1, hi => goodF_at t q.ep h3 i (by simpa using hi)

def bysR (l : List Rc) : List Value := l.flatMap nine
theorem bysR_snoc (l : List Rc) (r : Rc) : bysR (l ++ [r]) = bysR l ++ nine r := by simp [bysR]
def byF (l : List Rc) (i : Nat) : Int := by9 (atR l (i / 9)) (i % 9)
theorem bysR_at : ∀ (l : List Rc) (i : Nat), i < 9 * l.length → (bysR l)[i]? = some (.int .u8 (byF l i))
  | [], i, h => by simp at h
  | r :: l, i, h => by
    simp only [bysR, List.flatMap_cons]
    by_cases h9 : i < 9
    · rw [List.getElem?_append_left (by rw [nine_len]; exact h9), nine_at r i h9]
      have e1 : i / 9 = 0 := by omega
      have e2 : i % 9 = i := by omega
      unfold byF
      rw [e1, e2]
      rfl
    · have ih := bysR_at l (i - 9) (by simp at h; omega)
      rw [List.getElem?_append_right (by rw [nine_len]; omega), nine_len]
      refine ih.trans ?_
      have e1 : i / 9 = (i - 9) / 9 + 1 := by omega
      have e2 : i % 9 = (i - 9) % 9 := by omega
      unfold byF
      rw [e1, e2]
      rfl
theorem byF_bd {l : List Rc} {ep : Int} (h : goodF ep l) (i : Nat) (hi : i < 9 * l.length) : 0 ≤ byF l i ∧ byF l i < 256 :=
  by9_bd (goodF_at l ep h (i / 9) (by omega)) (i % 9)

theorem dec_few {k : Nat} (h : k < 9) (F : Nat → Int) : dec k F = (rc0, 7) := by unfold dec; rw [if_pos h]
theorem allF_cut : ∀ (rs : List Rc) (ep : Int) (fu k : Nat) (F : Nat → Int), goodF ep rs → k ≤ 9 * rs.length → k < fu * 9 → (∀ i, i < k → F i = byF rs i) → allF fu ep k F = rs.take (k / 9)
  | rs, ep, 0, k, F, _, _, h, _ => by omega
  | [], ep, fu + 1, k, F, _, hk, _, _ => by
    obtain rfl : k = 0 := by simpa using hk
    rw [allF, dec_few (by omega), if_pos (.inl (by decide))]
    simp
  | r :: t, ep, fu + 1, k, F, ⟨h1, h2, h3⟩, hk, hf, hF => by
    by_cases h9 : k < 9
    · rw [allF, dec_few h9, if_pos (.inl (by decide))]
      have : k / 9 = 0 := by omega
      rw [this]
      rfl
    · have hd : dec k F = (r, 0) := dec_by h1 (by omega) (fun i hi => by
        rw [hF i (by omega)]
        unfold byF
        have e1 : i / 9 = 0 := by omega
        have e2 : i % 9 = i := by omega
        rw [e1, e2]
        rfl)
      have ih := allF_cut t r.ep fu (k - 9) (fun i => F (i + 9)) h3 (by simp at hk; omega) (by omega) (fun i hi => by
        show F (i + 9) = _
        rw [hF (i + 9) (by omega)]
        unfold byF
        have e1 : (i + 9) / 9 = i / 9 + 1 := by omega
        have e2 : (i + 9) % 9 = i % 9 := by omega
        rw [e1, e2]
        rfl)
      rw [allF, hd, if_neg (by simp; omega)]
      simp only
      rw [ih]
      have e : k / 9 = (k - 9) / 9 + 1 := by omega
      rw [e]
      rfl
theorem allR_cut {rs : List Rc} (h : goodF 0 rs) {k : Nat} (hk : k ≤ 9 * rs.length) : allR k (byF rs) = rs.take (k / 9) := allF_cut rs 0 (k + 1) k (byF rs) h hk (by omega) (fun _ _ => rfl)

theorem own_ne {w : World} {base base' : Nat} {e e' : TypeId} {s s' : Nat} {v v' : Value} {n n' : Nat} {xs xs' : List Value} (h : w.ownsRow base e s v n xs) (h' : w.ownsRow base' e' s' v' n' xs') (he : e ≠ e') : v.ownBlock = none ∨ v.ownBlock ≠ v'.ownBlock := by
  obtain ⟨_, ⟨rfl, _⟩ | ⟨g, c, cur, rfl, _, hg, _⟩⟩ := h
  · exact .inl rfl
  · obtain ⟨_, ⟨rfl, _⟩ | ⟨g', c', cur', rfl, _, hg', _⟩⟩ := h'
    · exact .inr (by simp [Value.ownBlock])
    · refine .inr ?_
      simp only [Value.ownBlock, ne_eq, Option.some.injEq]
      intro e1
      subst e1
      rw [hg] at hg'
      simp at hg'
      exact he hg'.2

theorem own_byts {w : World} {base : Nat} {e : TypeId} {v : Value} {n : Nat} {xs : List Value} (h : w.ownsRow base e 1 v n xs) {f : Nat → Int} (hf : ∀ i, i < n → 0 ≤ f i ∧ f i < 256) (hx : ∀ i, i < n → xs[i]? = some (.int .u8 (f i))) : ∃ a c, v = .slice a n c ∧ n ≤ c ∧ Byt w a n f := by
  by_cases h0 : n = 0
  · obtain ⟨_, ⟨rfl, _⟩ | ⟨g, c, cur, rfl, _, _, hc, _⟩⟩ := h
    · exact ⟨none, 0, by rw [h0], by omega, hf, .inl h0⟩
    · exact ⟨_, c, rfl, hc, hf, .inl h0⟩
  · obtain ⟨g, c, rfl, hc, _, hg⟩ := own_shape h (by omega)
    exact ⟨_, c, rfl, hc, own_byt h hf hx⟩
theorem Byt.le {w : World} {a : Option Addr} {n m : Nat} {f : Nat → Int} (h : Byt w a n f) (hm : m ≤ n) : Byt w a m f :=
  ⟨fun i hi => h.1 i (by omega), h.2.elim (fun h0 => .inl (by omega)) (fun ⟨b, off, e, hb, hc⟩ => .inr ⟨b, off, e, hb, fun i hi => hc i (by omega)⟩)⟩
theorem atR_take (l : List Rc) (n i : Nat) (h : i < n) : atR (l.take n) i = atR l i := by
  unfold atR
  simp [List.getD, List.getElem?_take_of_lt h]
theorem Recs.congr {w : World} {a : Option Addr} {n : Nat} {fs gs : Nat → Rc} (h : Recs w a n fs) (e : ∀ i, i < n → fs i = gs i) : Recs w a n gs :=
  h.imp id (fun ⟨b, off, ea, hb, hc⟩ => ⟨b, off, ea, hb, fun i hi => e i hi ▸ hc i hi⟩)

theorem pickN (x : Int) (m : Nat) (hm : m ≤ 900) : ∃ k : Nat, k ≤ m ∧ wrap64 ((IntKind.u64.wrap x).tmod ((m : Int) + 1)) = k := by
  have h0 : 0 ≤ IntKind.u64.wrap x := by simp only [IntKind.wrap, IntKind.bits, IntKind.signed]; simp; omega
  have h1 : 0 ≤ (IntKind.u64.wrap x).tmod ((m : Int) + 1) := Int.tmod_nonneg _ h0
  have h2 : (IntKind.u64.wrap x).tmod ((m : Int) + 1) < (m : Int) + 1 := Int.tmod_lt_of_pos _ (by omega)
  refine ⟨((IntKind.u64.wrap x).tmod ((m : Int) + 1)).toNat, by omega, ?_⟩
  unfold wrap64
  omega

end Go.Proofs.YtllnjiljjodfdacGreatDoor

