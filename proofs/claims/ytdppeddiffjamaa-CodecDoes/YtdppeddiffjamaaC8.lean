/-
  Records in memory, and what vergersref.SameRecords says of two lists that are the same. Nothing here is claimed by itself.
-/
import Derived.Test.YtdppeddiffjamaaC7
namespace Go.Proofs.Ytdppeddiffjamaa
open Go.RowKit

def RecAt (w : World) (bl off : Nat) (r : Rc) : Prop :=
  w.cell? ⟨bl, off, none⟩ = some (.int .i64 r.ep) ∧ w.cell? ⟨bl, off + 1, none⟩ = some (.int .i64 r.o.k) ∧ w.cell? ⟨bl, off + 2, none⟩ = some (.int .i64 r.o.now) ∧ w.cell? ⟨bl, off + 3, none⟩ = some (.int .i64 r.o.jb) ∧
  w.cell? ⟨bl, off + 4, none⟩ = some (.int .i64 r.o.tr) ∧ w.cell? ⟨bl, off + 5, none⟩ = some (.int .i64 r.o.wk) ∧ w.cell? ⟨bl, off + 6, none⟩ = some (.int .i64 r.o.tm)
def Recs (w : World) (a : Option Addr) (n : Nat) (fs : Nat → Rc) : Prop :=
  n = 0 ∨ ∃ bl off, a = some ⟨bl, off, none⟩ ∧ bl < w.heap.size ∧ ∀ i, i < n → RecAt w bl (off + i * 7) (fs i)

theorem RecAt.chg {w w' : World} {bl off : Nat} {r : Rc} (h : RecAt w bl off r) (k : Chg [] w w') (hl : bl < w.heap.size) : RecAt w' bl off r := by
  obtain ⟨h0, h1, h2, h3, h4, h5, h6⟩ := h
  exact ⟨by rw [k.cell' hl (by simp)]; exact h0, by rw [k.cell' hl (by simp)]; exact h1, by rw [k.cell' hl (by simp)]; exact h2, by rw [k.cell' hl (by simp)]; exact h3, by rw [k.cell' hl (by simp)]; exact h4, by rw [k.cell' hl (by simp)]; exact h5, by rw [k.cell' hl (by simp)]; exact h6⟩
theorem Recs.chg {w w' : World} {a : Option Addr} {n : Nat} {fs : Nat → Rc} (h : Recs w a n fs) (k : Chg [] w w') : Recs w' a n fs := by
  rcases h with h | ⟨bl, off, e, hb, hc⟩
  · exact .inl h
  · exact .inr ⟨bl, off, e, Nat.lt_of_lt_of_le hb k.size, fun i hi => (hc i hi).chg k hb⟩
theorem Recs.le {w : World} {a : Option Addr} {n m : Nat} {fs : Nat → Rc} (h : Recs w a n fs) (hm : m ≤ n) : Recs w a m fs := by
  rcases h with h | ⟨bl, off, e, hb, hc⟩
  · exact .inl (by omega)
  · exact .inr ⟨bl, off, e, hb, fun i hi => hc i (by omega)⟩

def atR (l : List Rc) (i : Nat) : Rc := l.getD i rc0
theorem cellsR_at : ∀ (l : List Rc) (i j : Nat), i < l.length → j < 7 → (cellsR l)[i * 7 + j]? = ((atR l i).list)[j]?
  | [], _, _, h, _ => by simp at h
  | r :: l, 0, j, _, hj => by
    simp only [cellsR, List.flatMap_cons, Nat.zero_mul, Nat.zero_add]
    rw [List.getElem?_append_left (by simpa [Rc.list] using hj)]
    rfl
  | r :: l, i + 1, j, h, hj => by
    have ih := cellsR_at l i j (by simpa using h) hj
    simp only [cellsR, List.flatMap_cons]
    rw [List.getElem?_append_right (by simp [Rc.list]; omega)]
    have e : (i + 1) * 7 + j - r.list.length = i * 7 + j := by simp [Rc.list]; omega
    rw [e]
    exact ih

theorem own_recs {w : World} {base : Nat} {e : TypeId} {v : Value} {l : List Rc} {n : Nat} (h : w.ownsRow base e 7 v n (cellsR l)) (hn : n = l.length) : ∃ a c, v = .slice a n c ∧ n ≤ c ∧ (a = none → n = 0 ∧ c = 0) ∧ Recs w a n (atR l) := by
  by_cases h0 : n = 0
  · obtain ⟨_, ⟨rfl, _⟩ | ⟨g, c, cur, rfl, _, _, hc, _⟩⟩ := h
    · exact ⟨none, 0, by rw [h0], by omega, fun _ => ⟨h0, rfl⟩, .inl h0⟩
    · exact ⟨_, c, rfl, hc, (fun e => by simp at e), .inl h0⟩
  · obtain ⟨g, c, rfl, hc, _, hg⟩ := own_shape h (by omega)
    refine ⟨_, c, rfl, hc, (fun e => by simp at e), .inr ⟨g, 0, rfl, hg, fun i hi => ?_⟩⟩
    have cell : ∀ j, j < 7 → w.cell? ⟨g, 0 + i * 7 + j, none⟩ = ((atR l i).list)[j]? := by
      intro j hj
      have h1 := cellsR_at l i j (by omega) hj
      obtain ⟨u, hu⟩ : ∃ u, ((atR l i).list)[j]? = some u := ⟨((atR l i).list)[j]'(by simpa [Rc.list] using hj), by rw [List.getElem?_eq_getElem]⟩
      rw [hu] at h1 ⊢
      have := h.cells (g := g) rfl _ _ h1
      have e2 : ((⟨g, 0, none⟩ : Addr).add (i * 7 + j)) = ⟨g, 0 + i * 7 + j, none⟩ := by simp [Addr.add]; omega
      rw [e2] at this
      exact this
    exact ⟨cell 0 (by omega), cell 1 (by omega), cell 2 (by omega), cell 3 (by omega), cell 4 (by omega), cell 5 (by omega), cell 6 (by omega)⟩

set_option maxRecDepth 100000 in
set_option maxHeartbeats 4000000 in
theorem same_any (a a' : Option Addr) (n c c' : Nat) (fs : Nat → Rc) (w : World) (hn : n ≤ 4000) (h : Recs w a n fs) (h' : Recs w a' n fs) :
    Calls Try.prog 31 #[.slice a n c, .slice a' n c'] w fun e w' => e = .returned (.bool true) ∧ ∃ d, w' = w.drewN d := by
  go_enter Try.func31, Try.ntmps31
  go_wp2_with fail
  go_loopw [5] (fun i wr => ∃ k : Nat, k ≤ n ∧ i = .int .i64 k ∧ ∃ d, wr = w.drewN d) (fun i _ => n - (intOf i).toNat)
  case atStart => exact ⟨0, by omega, rfl, 0, rfl⟩
  case round =>
    obtain ⟨k, hk, rfl, d, rfl⟩ := hrel
    by_cases hlt : k < n
    · rcases h with h | ⟨b, off, rfl, hb, hc⟩
      · omega
      rcases h' with h' | ⟨b', off', rfl, hb', hc'⟩
      · omega
      obtain ⟨p0, p1, p2, p3, p4, p5, p6⟩ := hc k hlt
      obtain ⟨q0, q1, q2, q3, q4, q5, q6⟩ := hc' k hlt
      have hki : (k : Int) < (n : Int) := by omega
      clear hc hc'
      go_wp2_with fail
      go_quiet (fail)
      go_wp2
      go_roundw
      case rel => exact ⟨k + 1, by omega, by go_num, d + nq, by simp [World.drewN]⟩
      case measure => go_light; simp [intOf]; omega
    · go_wp2
      go_ret
      exact ⟨rfl, d, rfl⟩

end Go.Proofs.Ytdppeddiffjamaa
