/-
  Records one behind the other, cut somewhere. Plain mathematics. Nothing here is claimed by itself.
-/
import Derived.Test.YtdppeddiffjamaaC8
namespace Go.Proofs.Ytdppeddiffjamaa
open Go.RowKit

def goodF : Int → List Rc → Prop
  | _, [] => True
  | ep, r :: t => ckR r = 0 ∧ ep ≤ r.ep ∧ goodF r.ep t
def lastE : Int → List Rc → Int
  | ep, [] => ep
  | _, r :: t => lastE r.ep t
theorem goodF_snoc {r : Rc} (hr : ckR r = 0) : ∀ (rs : List Rc) (ep : Int), goodF ep rs → lastE ep rs ≤ r.ep → goodF ep (rs ++ [r])
  | [], _, _, h => ⟨hr, h, trivial⟩
  | q :: t, _, ⟨h1, h2, h3⟩, h => ⟨h1, h2, goodF_snoc hr t q.ep h3 h⟩
theorem lastE_at : ∀ (rs : List Rc) (ep : Int) (m : Nat), rs.length = m + 1 → lastE ep rs = (atR rs m).ep
  | [], _, _, h => by simp at h
  | [q], _, m, h => by
    simp at h
    subst h
    rfl
  | q :: p :: t, _, m, h => by
    obtain ⟨m, rfl⟩ : ∃ x, m = x + 1 := ⟨m - 1, by simp at h; omega⟩
    have := lastE_at (p :: t) q.ep m (by simpa using h)
    simp only [lastE] at this ⊢
    rw [this]
    rfl
theorem goodF_at : ∀ (rs : List Rc) (ep : Int), goodF ep rs → ∀ i, i < rs.length → ckR (atR rs i) = 0
  | [], _, _, i, hi => by simp at hi
  | q :: t, _, ⟨h1, _, _⟩, 0, _ => h1
  | q :: t, _, ⟨_, _, h3⟩, i + 1, hi => goodF_at t q.ep h3 i (by simpa using hi)

def bysR (l : List Rc) : List Value := l.flatMap nine
theorem bysR_snoc (l : List Rc) (r : Rc) : bysR (l ++ [r]) = bysR l ++ nine r := by simp [bysR]
def byF (l : List Rc) (i : Nat) : Int := by9 (atR l (i / 9)) (i % 9)
theorem bysR_at : ∀ (l : List Rc) (i : Nat), i < 9 * l.length → (bysR l)[i]? = some (.int .u8 (byF l i))
  | [], i, h => by simp at h
  | r :: l, i, h => by
    simp only [bysR, List.flatMap_cons]
    by_cases h9 : i < 9
    · rw [List.getElem?_append_left (by rw [nine_len]; exact h9), nine_at r i h9]
      have e1 : i / 9 = 0 := by omega
      have e2 : i % 9 = i := by omega
      unfold byF
      rw [e1, e2]
      rfl
    · have ih := bysR_at l (i - 9) (by simp at h; omega)
      rw [List.getElem?_append_right (by rw [nine_len]; omega), nine_len]
      refine ih.trans ?_
      have e1 : i / 9 = (i - 9) / 9 + 1 := by omega
      have e2 : i % 9 = (i - 9) % 9 := by omega
      unfold byF
      rw [e1, e2]
      rfl
theorem byF_bd {l : List Rc} {ep : Int} (h : goodF ep l) (i : Nat) (hi : i < 9 * l.length) : 0 ≤ byF l i ∧ byF l i < 256 :=
  by9_bd (goodF_at l ep h (i / 9) (by omega)) (i % 9)

theorem dec_few {k : Nat} (h : k < 9) (F : Nat → Int) : dec k F = (rc0, 7) := by unfold dec; rw [if_pos h]
theorem allF_cut : ∀ (rs : List Rc) (ep : Int) (fu k : Nat) (F : Nat → Int), goodF ep rs → k ≤ 9 * rs.length → k < fu * 9 → (∀ i, i < k → F i = byF rs i) → allF fu ep k F = rs.take (k / 9)
  | rs, ep, 0, k, F, _, _, h, _ => by omega
  | [], ep, fu + 1, k, F, _, hk, _, _ => by
    obtain rfl : k = 0 := by simpa using hk
    rw [allF, dec_few (by omega), if_pos (.inl (by decide))]
    simp
  | r :: t, ep, fu + 1, k, F, ⟨h1, h2, h3⟩, hk, hf, hF => by
    by_cases h9 : k < 9
    · rw [allF, dec_few h9, if_pos (.inl (by decide))]
      have : k / 9 = 0 := by omega
      rw [this]
      rfl
    · have hd : dec k F = (r, 0) := dec_by h1 (by omega) (fun i hi => by
        rw [hF i (by omega)]
        unfold byF
        have e1 : i / 9 = 0 := by omega
        have e2 : i % 9 = i := by omega
        rw [e1, e2]
        rfl)
      have ih := allF_cut t r.ep fu (k - 9) (fun i => F (i + 9)) h3 (by simp at hk; omega) (by omega) (fun i hi => by
        show F (i + 9) = _
        rw [hF (i + 9) (by omega)]
        unfold byF
        have e1 : (i + 9) / 9 = i / 9 + 1 := by omega
        have e2 : (i + 9) % 9 = i % 9 := by omega
        rw [e1, e2]
        rfl)
      rw [allF, hd, if_neg (by simp; omega)]
      simp only
      rw [ih]
      have e : k / 9 = (k - 9) / 9 + 1 := by omega
      rw [e]
      rfl
theorem allR_cut {rs : List Rc} (h : goodF 0 rs) {k : Nat} (hk : k ≤ 9 * rs.length) : allR k (byF rs) = rs.take (k / 9) := allF_cut rs 0 (k + 1) k (byF rs) h hk (by omega) (fun _ _ => rfl)

theorem own_ne {w : World} {base base' : Nat} {e e' : TypeId} {s s' : Nat} {v v' : Value} {n n' : Nat} {xs xs' : List Value} (h : w.ownsRow base e s v n xs) (h' : w.ownsRow base' e' s' v' n' xs') (he : e ≠ e') : v.ownBlock = none ∨ v.ownBlock ≠ v'.ownBlock := by
  obtain ⟨_, ⟨rfl, _⟩ | ⟨g, c, cur, rfl, _, hg, _⟩⟩ := h
  · exact .inl rfl
  · obtain ⟨_, ⟨rfl, _⟩ | ⟨g', c', cur', rfl, _, hg', _⟩⟩ := h'
    · exact .inr (by simp [Value.ownBlock])
    · refine .inr ?_
      simp only [Value.ownBlock, ne_eq, Option.some.injEq]
      intro e1
      subst e1
      rw [hg] at hg'
      simp at hg'
      exact he hg'.2

theorem own_byts {w : World} {base : Nat} {e : TypeId} {v : Value} {n : Nat} {xs : List Value} (h : w.ownsRow base e 1 v n xs) {f : Nat → Int} (hf : ∀ i, i < n → 0 ≤ f i ∧ f i < 256) (hx : ∀ i, i < n → xs[i]? = some (.int .u8 (f i))) : ∃ a c, v = .slice a n c ∧ n ≤ c ∧ Byt w a n f := by
  by_cases h0 : n = 0
  · obtain ⟨_, ⟨rfl, _⟩ | ⟨g, c, cur, rfl, _, _, hc, _⟩⟩ := h
    · exact ⟨none, 0, by rw [h0], by omega, hf, .inl h0⟩
    · exact ⟨_, c, rfl, hc, hf, .inl h0⟩
  · obtain ⟨g, c, rfl, hc, _, hg⟩ := own_shape h (by omega)
    exact ⟨_, c, rfl, hc, own_byt h hf hx⟩
theorem Byt.le {w : World} {a : Option Addr} {n m : Nat} {f : Nat → Int} (h : Byt w a n f) (hm : m ≤ n) : Byt w a m f :=
  ⟨fun i hi => h.1 i (by omega), h.2.elim (fun h0 => .inl (by omega)) (fun ⟨b, off, e, hb, hc⟩ => .inr ⟨b, off, e, hb, fun i hi => hc i (by omega)⟩)⟩
theorem atR_take (l : List Rc) (n i : Nat) (h : i < n) : atR (l.take n) i = atR l i := by
  unfold atR
  simp [List.getD, List.getElem?_take_of_lt h]
theorem Recs.congr {w : World} {a : Option Addr} {n : Nat} {fs gs : Nat → Rc} (h : Recs w a n fs) (e : ∀ i, i < n → fs i = gs i) : Recs w a n gs :=
  h.imp id (fun ⟨b, off, ea, hb, hc⟩ => ⟨b, off, ea, hb, fun i hi => e i hi ▸ hc i hi⟩)

theorem pickN (x : Int) (m : Nat) (hm : m ≤ 900) : ∃ k : Nat, k ≤ m ∧ wrap64 ((IntKind.u64.wrap x).tmod ((m : Int) + 1)) = k := by
  have h0 : 0 ≤ IntKind.u64.wrap x := by simp only [IntKind.wrap, IntKind.bits, IntKind.signed]; simp; omega
  have h1 : 0 ≤ (IntKind.u64.wrap x).tmod ((m : Int) + 1) := Int.tmod_nonneg _ h0
  have h2 : (IntKind.u64.wrap x).tmod ((m : Int) + 1) < (m : Int) + 1 := Int.tmod_lt_of_pos _ (by omega)
  refine ⟨((IntKind.u64.wrap x).tmod ((m : Int) + 1)).toNat, by omega, ?_⟩
  unfold wrap64
  omega

end Go.Proofs.Ytdppeddiffjamaa
