/-
  Encode at every record; more on strings of bytes. Nothing here is claimed by itself.
-/
import Derived.Test.YtdppeddiffjamaaC6
import Derived.Laws.AppendOwnNone
namespace Go.Proofs.Ytdppeddiffjamaa
open Go.RowKit

theorem enc_both (r : Rc) (w : World) :
    Calls Try.prog 25 #[.agg r.cells] w fun e w' => ∃ v, e = .returned (.tuple #[v, .int .i64 (ckR r)]) ∧ (ckR r ≠ 0 → v = .slice none 0 0) ∧
      (ckR r = 0 → ∃ g, v = .slice (some ⟨g, 0, none⟩) 9 9 ∧ w.heap.size ≤ g ∧ Blk w' g #[.int .u8 (by9 r 0), .int .u8 (by9 r 1), .int .u8 (by9 r 2), .int .u8 (by9 r 3), .int .u8 (by9 r 4), .int .u8 (by9 r 5), .int .u8 (by9 r 6), .int .u8 (by9 r 7), .int .u8 (by9 r 8)] 5) ∧ Chg [] w w' := by
  by_cases h : ckR r = 0
  · refine (enc_yes r w h).mono ?_
    rintro e w' ⟨g, rfl, hg, hB, hc⟩
    exact ⟨_, by rw [h], fun h' => absurd h h', fun _ => ⟨g, rfl, hg, hB⟩, hc⟩
  · refine (enc_no r w h).mono ?_
    rintro e w' ⟨rfl, hc⟩
    exact ⟨_, rfl, fun _ => rfl, fun h' => absurd h' h, hc⟩

theorem dec_not {n : Nat} {f : Nat → Int} (h : (dec n f).2 ≠ 0) : dec n f = (rc0, (dec n f).2) := by
  unfold dec at h ⊢
  split
  · rfl
  rename_i h1
  rw [if_neg h1] at h
  split
  · rfl
  rename_i h2
  rw [if_neg h2] at h
  split
  · rfl
  rename_i h3
  rw [if_neg h3] at h
  exact absurd rfl h

theorem by_rd {f : Nat → Int} (hf : ∀ i, i < 9 → 0 ≤ f i ∧ f i < 256) (h8 : f 8 = sm f 8 % 251) (i : Nat) (hi : i < 9) : by9 (rdR f) i = f i := by
  have e8 : ∀ j, j < 8 → by8 (rdR f) j = f j := by
    intro j hj
    obtain rfl | rfl | rfl | rfl | rfl | rfl | rfl | rfl : j = 0 ∨ j = 1 ∨ j = 2 ∨ j = 3 ∨ j = 4 ∨ j = 5 ∨ j = 6 ∨ j = 7 := by omega
    · rfl
    · rfl
    · show (f 2 * 256 + f 3) / 256 = f 2
      have := hf 3 (by omega); omega
    · show (f 2 * 256 + f 3) % 256 = f 3
      have := hf 3 (by omega); omega
    · rfl
    · rfl
    · rfl
    · rfl
  unfold by9
  by_cases h : i < 8
  · rw [if_pos h]; exact e8 i h
  · obtain rfl : i = 8 := by omega
    rw [if_neg h, sm_congr 8 e8, h8]

theorem strB_congr {n : Nat} {f g : Nat → Int} (h : ∀ i, i < n → f i = g i) : strB n f = strB n g := by
  unfold strB
  congr 1
  apply List.map_congr_left
  intro i hi
  exact h i (by simpa using hi)
theorem strB_inj {n : Nat} {f g : Nat → Int} (hf : ∀ i, i < n → 0 ≤ f i ∧ f i < 256) (hg : ∀ i, i < n → 0 ≤ g i ∧ g i < 256) (h : strB n f = strB n g) : ∀ i, i < n → f i = g i := by
  intro i hi
  have h1 := congrArg (fun b => b.data.toList) h
  simp only [strB, strOfNums_data] at h1
  have h2 := congrArg (fun l => l[i]?) h1
  simp [hi] at h2
  have a := hf i hi
  have b := hg i hi
  have h3 := congrArg UInt8.toNat h2
  simp at h3
  omega
theorem by9_inj {r q : Rc} (h : ∀ i, i < 9 → by9 r i = by9 q i) : r = q := by
  rw [← rd_by (r := r), ← rd_by (r := q)]
  unfold rdR
  rw [h 0 (by omega), h 1 (by omega), h 2 (by omega), h 3 (by omega), h 4 (by omega), h 5 (by omega), h 6 (by omega), h 7 (by omega)]
theorem str_eq {r q : Rc} (hr : ckR r = 0) (hq : ckR q = 0) : strB 9 (by9 r) = strB 9 (by9 q) ↔ r = q :=
  ⟨fun h => by9_inj (strB_inj (fun i _ => by9_bd hr i) (fun i _ => by9_bd hq i) h), fun h => by rw [h]⟩

theorem str_ne {r q : Rc} (hr : ckR r = 0) (hq : ckR q = 0) (h : r ≠ q) : ((strB 9 (by9 r)).toList == (strB 9 (by9 q)).toList) = false := by
  rw [beq_eq_false_iff_ne]
  intro e
  rw [ByteArray.toList_eq, ByteArray.toList_eq] at e
  have e1 : (strB 9 (by9 r)) = strB 9 (by9 q) := ByteArray.ext (Array.toList_inj.1 e)
  exact h ((str_eq hr hq).1 e1)
theorem rec_ne {r q : Rc} (h : r ≠ q) : ¬ r.ep = q.ep ∨ (r.ep = q.ep ∧ ¬ r.o.k = q.o.k) ∨ (r.ep = q.ep ∧ r.o.k = q.o.k ∧ ¬ r.o.now = q.o.now) ∨ (r.ep = q.ep ∧ r.o.k = q.o.k ∧ r.o.now = q.o.now ∧ ¬ r.o.jb = q.o.jb) ∨
    (r.ep = q.ep ∧ r.o.k = q.o.k ∧ r.o.now = q.o.now ∧ r.o.jb = q.o.jb ∧ ¬ r.o.tr = q.o.tr) ∨ (r.ep = q.ep ∧ r.o.k = q.o.k ∧ r.o.now = q.o.now ∧ r.o.jb = q.o.jb ∧ r.o.tr = q.o.tr ∧ ¬ r.o.wk = q.o.wk) ∨
    (r.ep = q.ep ∧ r.o.k = q.o.k ∧ r.o.now = q.o.now ∧ r.o.jb = q.o.jb ∧ r.o.tr = q.o.tr ∧ r.o.wk = q.o.wk ∧ ¬ r.o.tm = q.o.tm) := by
  by_cases h0 : r.ep = q.ep
  · by_cases h1 : r.o.k = q.o.k
    · by_cases h2 : r.o.now = q.o.now
      · by_cases h3 : r.o.jb = q.o.jb
        · by_cases h4 : r.o.tr = q.o.tr
          · by_cases h5 : r.o.wk = q.o.wk
            · by_cases h6 : r.o.tm = q.o.tm
              · exact absurd (Rc.ext' h0 (Od.ext' h1 h2 h3 h4 h5 h6)) h
              · simp [h0, h1, h2, h3, h4, h5, h6]
            · simp [h0, h1, h2, h3, h4, h5]
          · simp [h0, h1, h2, h3, h4]
        · simp [h0, h1, h2, h3]
      · simp [h0, h1, h2]
    · simp [h0, h1]
  · simp [h0]
def bytL (n : Nat) (f : Nat → Int) : List Value := (List.range n).map (fun i => Value.int .u8 (f i))
theorem bytL_len (n : Nat) (f : Nat → Int) : (bytL n f).length = n := by simp [bytL]
theorem bytL_at (n : Nat) (f : Nat → Int) (i : Nat) (hi : i < n) : (bytL n f)[i]? = some (.int .u8 (f i)) := by simp [bytL, hi]
theorem bytL_one (n : Nat) (f : Nat → Int) : ∀ u ∈ bytL n f, u.oneCell' = true := by
  intro u hu
  obtain ⟨i, _, rfl⟩ := List.mem_map.1 hu
  rfl
theorem Byt.news {w : World} {ad : Addr} {n : Nat} {f : Nat → Int} (h : Byt w (some ad) n f) : ∀ (j : Nat) (u : Value), (bytL n f)[j]? = some u → w.cell? (ad.add j) = some u := by
  intro j u hj
  have hjn : j < n := by
    rcases Nat.lt_or_ge j n with h1 | h1
    · exact h1
    · rw [List.getElem?_eq_none (by rw [bytL_len]; exact h1)] at hj; cases hj
  obtain ⟨_, h0 | ⟨b, off, e, _, hc⟩⟩ := h
  · omega
  · simp at e
    subst e
    rw [bytL_at n f j hjn] at hj
    simp at hj
    subst hj
    have : ((⟨b, off, none⟩ : Addr).add j) = ⟨b, off + j, none⟩ := by unfold Addr.add; split <;> simp_all
    rw [this]
    exact hc j hjn
/-- The bytes f with the bytes g behind its first m. -/
def catB (m : Nat) (f g : Nat → Int) : Nat → Int := fun i => if i < m then f i else g (i - m)
theorem catB_bd {m n : Nat} {f g : Nat → Int} (hf : ∀ i, i < m → 0 ≤ f i ∧ f i < 256) (hg : ∀ i, i < n → 0 ≤ g i ∧ g i < 256) (i : Nat) (hi : i < m + n) : 0 ≤ catB m f g i ∧ catB m f g i < 256 := by
  unfold catB; split
  · exact hf i ‹_›
  · exact hg _ (by omega)
theorem catB_at {m n : Nat} {f g : Nat → Int} {xs ys : List Value} (hl : xs.length = m) (hx : ∀ i, i < m → xs[i]? = some (.int .u8 (f i))) (hy : ∀ i, i < n → ys[i]? = some (.int .u8 (g i))) (i : Nat) (hi : i < m + n) : (xs ++ ys)[i]? = some (.int .u8 (catB m f g i)) := by
  unfold catB
  by_cases h : i < m
  · rw [if_pos h, List.getElem?_append_left (by omega)]; exact hx i h
  · rw [if_neg h, List.getElem?_append_right (by omega), hl]; exact hy _ (by omega)
theorem cat_dec {r : Rc} (h : ckR r = 0) (n : Nat) (g : Nat → Int) : dec (9 + n) (catB 9 (by9 r) g) = (r, 0) := dec_by h (by omega) (fun i hi => by simp [catB, hi])

end Go.Proofs.Ytdppeddiffjamaa
