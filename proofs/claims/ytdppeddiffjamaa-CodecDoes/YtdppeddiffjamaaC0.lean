/-
  The plain mathematics of the codec layer (a record, its nine bytes, the sum), and what it means that bytes lie in memory. Nothing here is claimed by itself.
-/
import Derived.Test.YtdppeddiffjamaaW6
namespace Go.Proofs.Ytdppeddiffjamaa
open Go.RowKit

structure Rc where
  ep : Int
  o : Od

theorem Od.ext' {a b : Od} (h1 : a.k = b.k) (h2 : a.now = b.now) (h3 : a.jb = b.jb) (h4 : a.tr = b.tr) (h5 : a.wk = b.wk) (h6 : a.tm = b.tm) : a = b := by
  cases a; cases b; simp_all
theorem Rc.ext' {a b : Rc} (h0 : a.ep = b.ep) (h : a.o = b.o) : a = b := by
  cases a; cases b; simp_all

def rc0 : Rc := ⟨0, ⟨0, 0, 0, 0, 0, 0⟩⟩
def Rc.list (r : Rc) : List Value := [.int .i64 r.ep, .int .i64 r.o.k, .int .i64 r.o.now, .int .i64 r.o.jb, .int .i64 r.o.tr, .int .i64 r.o.wk, .int .i64 r.o.tm]
def Rc.cells (r : Rc) : Array Value := #[.int .i64 r.ep, .int .i64 r.o.k, .int .i64 r.o.now, .int .i64 r.o.jb, .int .i64 r.o.tr, .int .i64 r.o.wk, .int .i64 r.o.tm]

/-- The sum of the first bytes, ahead of the rest by 251. -/
def sm (f : Nat → Int) : Nat → Int
  | 0 => 1
  | k + 1 => sm f k + f k * ((k : Int) + 1)

theorem sm_congr {f g : Nat → Int} : ∀ k, (∀ i, i < k → f i = g i) → sm f k = sm g k
  | 0, _ => rfl
  | k + 1, h => by simp only [sm]; rw [sm_congr k (fun i hi => h i (by omega)), h k (by omega)]

theorem sm_step (f : Nat → Int) {k : Nat} (hk : k < 8) (h0 : 0 ≤ f k) (h1 : f k < 256) : 0 ≤ f k * ((k : Int) + 1) ∧ f k * ((k : Int) + 1) ≤ 2040 := by
  obtain rfl | rfl | rfl | rfl | rfl | rfl | rfl | rfl : k = 0 ∨ k = 1 ∨ k = 2 ∨ k = 3 ∨ k = 4 ∨ k = 5 ∨ k = 6 ∨ k = 7 := by omega
  all_goals (constructor <;> simp <;> omega)

theorem sm_bd (f : Nat → Int) (hf : ∀ i, i < 8 → 0 ≤ f i ∧ f i < 256) : ∀ k, k ≤ 8 → 1 ≤ sm f k ∧ sm f k ≤ 1 + 2040 * (k : Int)
  | 0, _ => ⟨by simp [sm], by simp [sm]⟩
  | k + 1, h => by
    have ih := sm_bd f hf k (by omega)
    have st := sm_step f (k := k) (by omega) (hf k (by omega)).1 (hf k (by omega)).2
    simp only [sm]
    omega

def ckR (r : Rc) : Int := if r.ep < 1 ∨ 100 < r.ep then 3 else chk r.o
/-- The bytes of a record. -/
def by8 (r : Rc) : Nat → Int
  | 0 => r.ep | 1 => r.o.k | 2 => r.o.now / 256 | 3 => r.o.now % 256 | 4 => r.o.jb | 5 => r.o.tr | 6 => r.o.wk | _ => r.o.tm
def by9 (r : Rc) : Nat → Int := fun i => if i < 8 then by8 r i else sm (by8 r) 8 % 251
def rdR (f : Nat → Int) : Rc := ⟨f 0, ⟨f 1, f 2 * 256 + f 3, f 4, f 5, f 6, f 7⟩⟩
def dec (n : Nat) (f : Nat → Int) : Rc × Int :=
  if n < 9 then (rc0, 7) else if f 8 ≠ sm f 8 % 251 then (rc0, 2) else if ckR (rdR f) ≠ 0 then (rc0, ckR (rdR f)) else (rdR f, 0)

theorem chk_bd {o : Od} (h : chk o = 0) : (1 ≤ o.k ∧ o.k ≤ 5) ∧ (0 ≤ o.now ∧ o.now ≤ 60000) ∧ (0 ≤ o.jb ∧ o.jb ≤ 5) ∧ (0 ≤ o.tr ∧ o.tr ≤ 3) ∧ (0 ≤ o.wk ∧ o.wk ≤ 3) ∧ (0 ≤ o.tm ∧ o.tm ≤ 20) := by
  unfold chk at h
  split at h
  · omega
  split at h
  · omega
  split at h
  · omega
  rename_i h1 h2 h3
  rw [Bool.not_eq_false] at h1 h2 h3
  simp only [knownB, inB, formB, rangeB, Bool.and_eq_true, Bool.or_eq_true, decide_eq_true_eq, Bool.not_eq_true', beq_iff_eq] at h1 h2 h3
  refine ⟨by omega, by omega, by omega, ?_, by omega, ?_⟩
  · rcases h2.1.1.2 with e | e
    · rcases h3.1.2 with e' | e'
      · rw [e] at e'; cases e'
      · omega
    · omega
  · rcases h2.2 with e | e
    · rcases h3.2 with e' | e'
      · rw [e] at e'; cases e'
      · omega
    · omega

theorem ckR_bd {r : Rc} (h : ckR r = 0) : (1 ≤ r.ep ∧ r.ep ≤ 100) ∧ chk r.o = 0 := by
  unfold ckR at h
  split at h
  · omega
  · exact ⟨by omega, h⟩

theorem by8_bd {r : Rc} (h : ckR r = 0) (i : Nat) (_ : i < 8) : 0 ≤ by8 r i ∧ by8 r i < 256 := by
  obtain ⟨h0, h1⟩ := ckR_bd h
  have := chk_bd h1
  unfold by8
  split <;> omega
theorem by9_bd {r : Rc} (h : ckR r = 0) (i : Nat) : 0 ≤ by9 r i ∧ by9 r i < 256 := by
  unfold by9
  split
  · exact by8_bd h i ‹_›
  · omega

theorem rd_by {r : Rc} : rdR (by9 r) = r := by
  refine Rc.ext' rfl (Od.ext' rfl ?_ rfl rfl rfl rfl)
  show r.o.now / 256 * 256 + r.o.now % 256 = r.o.now
  omega
theorem sm_by {r : Rc} : sm (by9 r) 8 = sm (by8 r) 8 := sm_congr 8 (fun i hi => by simp [by9, hi])
theorem dec_by {r : Rc} (h : ckR r = 0) {n : Nat} (hn : 9 ≤ n) {f : Nat → Int} (hf : ∀ i, i < 9 → f i = by9 r i) : dec n f = (r, 0) := by
  have e1 : rdR f = r := by
    rw [← rd_by (r := r)]
    unfold rdR
    rw [hf 0 (by omega), hf 1 (by omega), hf 2 (by omega), hf 3 (by omega), hf 4 (by omega), hf 5 (by omega), hf 6 (by omega), hf 7 (by omega)]
  have e2 : sm f 8 = sm (by8 r) 8 := by rw [← sm_by]; exact sm_congr 8 (fun i hi => hf i (by omega))
  have e3 : f 8 = sm (by8 r) 8 % 251 := by rw [hf 8 (by omega)]; simp [by9]
  unfold dec
  rw [if_neg (by omega), e1, e2, e3, if_neg (by simp), if_neg (by simp [h])]

/-- The bytes f lie where the slice says. -/
def Byt (w : World) (a : Option Addr) (n : Nat) (f : Nat → Int) : Prop :=
  (∀ i, i < n → 0 ≤ f i ∧ f i < 256) ∧ (n = 0 ∨ ∃ b off, a = some ⟨b, off, none⟩ ∧ b < w.heap.size ∧ ∀ i, i < n → w.cell? ⟨b, off + i, none⟩ = some (.int .u8 (f i)))

theorem Chg.cell' {bs : List Nat} {w w' : World} (h : Chg bs w w') {p : Addr} (hp : p.block < w.heap.size) (hb : p.block ∉ bs) : w'.cell? p = w.cell? p := World.cell?_of_block (w := w) (h.block p.block hp hb)
theorem Byt.chg {w w' : World} {a : Option Addr} {n : Nat} {f : Nat → Int} (h : Byt w a n f) (k : Chg [] w w') : Byt w' a n f := by
  obtain ⟨h1, h2⟩ := h
  refine ⟨h1, ?_⟩
  rcases h2 with h2 | ⟨b, off, e, hb, hc⟩
  · exact .inl h2
  · exact .inr ⟨b, off, e, Nat.lt_of_lt_of_le hb k.size, fun i hi => by rw [k.cell' hb (by simp)]; exact hc i hi⟩
theorem Byt.congr {w : World} {a : Option Addr} {n : Nat} {f g : Nat → Int} (h : Byt w a n f) (e : ∀ i, i < n → f i = g i) : Byt w a n g :=
  ⟨fun i hi => e i hi ▸ h.1 i hi, h.2.imp id (fun ⟨b, off, ea, hb, hc⟩ => ⟨b, off, ea, hb, fun i hi => e i hi ▸ hc i hi⟩)⟩

end Go.Proofs.Ytdppeddiffjamaa
