/-
  The plain mathematics of a disk (an epoch, and bytes), and what it means that bytes, and a disk, lie in memory. Nothing here is claimed by itself.
-/
import Derived.Test.YtkkffgojblopjaaBase
import Derived.Laws.OwnMore
import Derived.Laws.AppendOwnNone
import Derived.Laws.BytesArg
import Derived.Deep.Light
namespace Go.Proofs.Ytkkffgojblopjaa
open Go.RowKit

def U8 (l : List Int) : List Value := l.map (.int .u8)
theorem U8_len (l : List Int) : (U8 l).length = l.length := by simp [U8]
theorem U8_nil : U8 [] = [] := rfl
theorem U8_app (a b : List Int) : U8 (a ++ b) = U8 a ++ U8 b := by simp [U8]
theorem U8_take (n : Nat) (a : List Int) : U8 (a.take n) = (U8 a).take n := by simp [U8, List.map_take]
theorem U8_at {l : List Int} {i : Nat} {u : Value} (h : (U8 l)[i]? = some u) : ∃ x, l[i]? = some x ∧ u = .int .u8 x := by
  simp only [U8, List.getElem?_map, Option.map_eq_some_iff] at h
  obtain ⟨x, h1, h2⟩ := h
  exact ⟨x, h1, h2.symm⟩
theorem U8_one (l : List Int) : ∀ u ∈ U8 l, u.oneCell' = true := by
  intro u hu
  simp only [U8, List.mem_map] at hu
  obtain ⟨x, _, rfl⟩ := hu
  simp [Value.oneCell']
def okB (l : List Int) : Prop := ∀ x ∈ l, 0 ≤ x ∧ x < 256
theorem okB_nil : okB [] := fun _ h => by simp at h
theorem okB.app {a b : List Int} (h : okB a) (k : okB b) : okB (a ++ b) := fun x hx => (List.mem_append.1 hx).elim (h x) (k x)
theorem okB.take {a : List Int} (h : okB a) (n : Nat) : okB (a.take n) := fun x hx => h x (List.mem_of_mem_take hx)

/-! ### What a disk does -/
def rsE (ep : Int) : Int := if 100 ≤ ep then ep else ep + 1
def rsA (ep : Int) : Int := if 100 ≤ ep then 0 else ep + 1
def rsC (ep : Int) : Int := if 100 ≤ ep then 8 else 0
theorem rs_full {ep : Int} (h : 100 ≤ ep) : rsE ep = ep ∧ rsA ep = 0 ∧ rsC ep = 8 := by simp [rsE, rsA, rsC, h]
theorem rs_more {ep : Int} (h : ¬ 100 ≤ ep) : rsE ep = ep + 1 ∧ rsA ep = ep + 1 ∧ rsC ep = 0 := by simp [rsE, rsA, rsC, h]
def fenB (ep e : Int) : Bool := decide (e < 1) || e != ep
theorem fen_not {ep e : Int} (h : fenB ep e = false) : 1 ≤ e ∧ e = ep := by
  simp [fenB] at h
  omega
def apC (ep : Int) (n m : Nat) (e : Int) : Int := if fenB ep e = true then 9 else if 1500 < n + m then 8 else 0
def apL (ep : Int) (l x : List Int) (e : Int) : List Int := if apC ep l.length x.length e = 0 then l ++ x else l
def ctC (ep : Int) (n : Nat) (e k : Int) : Int := if fenB ep e = true then 9 else if k < 0 ∨ (n : Int) < k then 3 else 0
def ctL (ep : Int) (l : List Int) (e k : Int) : List Int := if ctC ep l.length e k = 0 then l.take k.toNat else l

theorem ap_fen {ep e : Int} (h : fenB ep e = true) (l x : List Int) : apC ep l.length x.length e = 9 ∧ apL ep l x e = l := by
  have : apC ep l.length x.length e = 9 := by simp [apC, h]
  exact ⟨this, by simp [apL, this]⟩
theorem ap_full {ep e : Int} (h : fenB ep e = false) {l x : List Int} (hn : 1500 < l.length + x.length) : apC ep l.length x.length e = 8 ∧ apL ep l x e = l := by
  have : apC ep l.length x.length e = 8 := by simp [apC, h, hn]
  exact ⟨this, by simp [apL, this]⟩
theorem ap_yes {ep e : Int} (h : fenB ep e = false) {l x : List Int} (hn : ¬ 1500 < l.length + x.length) : apC ep l.length x.length e = 0 ∧ apL ep l x e = l ++ x := by
  have : apC ep l.length x.length e = 0 := by simp [apC, h, hn]
  exact ⟨this, by simp [apL, this]⟩
theorem ct_fen {ep e : Int} (h : fenB ep e = true) (l : List Int) (k : Int) : ctC ep l.length e k = 9 ∧ ctL ep l e k = l := by
  have : ctC ep l.length e k = 9 := by simp [ctC, h]
  exact ⟨this, by simp [ctL, this]⟩
theorem ct_range {ep e : Int} (h : fenB ep e = false) {l : List Int} {k : Int} (hk : k < 0 ∨ (l.length : Int) < k) : ctC ep l.length e k = 3 ∧ ctL ep l e k = l := by
  have : ctC ep l.length e k = 3 := by
    unfold ctC
    rw [if_neg (by simp [h]), if_pos hk]
  exact ⟨this, by simp [ctL, this]⟩
theorem ct_yes {ep e : Int} (h : fenB ep e = false) {l : List Int} {k : Int} (hk : ¬ (k < 0 ∨ (l.length : Int) < k)) : ctC ep l.length e k = 0 ∧ ctL ep l e k = l.take k.toNat := by
  have : ctC ep l.length e k = 0 := by
    unfold ctC
    rw [if_neg (by simp [h]), if_neg hk]
  exact ⟨this, by simp [ctL, this]⟩

/-! ### Bytes in memory -/
/-- v is a slice of the bytes l. -/
def Sl (w : World) (v : Value) (l : List Int) : Prop :=
  (v = .slice none 0 0 ∧ l = []) ∨ ∃ (p : Addr) (c : Nat), v = .slice (some p) l.length c ∧ l.length ≤ c ∧ ∀ j u, l[j]? = some u → w.cell? (p.add j) = some (.int .u8 u)
theorem block_add (p : Addr) (j : Nat) : (p.add j).block = p.block := by unfold Addr.add; split <;> rfl
/-- The block in which the bytes of a slice lie, if there is one. -/
theorem Sl.chg {w w' : World} {v : Value} {l : List Int} (h : Sl w v l) {bs : List Nat} (k : Chg bs w w') (hb : ∀ x ∈ bs, v.ownBlock ≠ some x) : Sl w' v l := by
  rcases h with h | ⟨p, c, rfl, hc, h⟩
  · exact .inl h
  · refine .inr ⟨p, c, rfl, hc, fun j u hj => ?_⟩
    have h0 := h j u hj
    have hl := World.block_lt_of_cell? w _ h0
    have hk := k.block (p.add j).block hl (fun hx => hb _ hx (by rw [block_add]; rfl))
    rw [World.cell?_of_block (w := w) hk]
    exact h0
theorem Sl.take {w : World} {p : Addr} {n c : Nat} {l : List Int} (hn : l.length = n) (h : Sl w (.slice (some p) n c) l) {k : Nat} (hk : k ≤ l.length) (c' : Nat) (hc : k ≤ c') : Sl w (.slice (some p) k c') (l.take k) := by
  rcases h with ⟨h, _⟩ | ⟨p', c0, e, _, h⟩
  · simp at h
  · simp only [Value.slice.injEq, Option.some.injEq] at e
    obtain ⟨rfl, _, rfl⟩ := e
    refine .inr ⟨p, c', by rw [List.length_take, Nat.min_eq_left hk], by rw [List.length_take]; omega, fun j u hj => h j u ?_⟩
    by_cases hjk : j < k
    · rwa [List.getElem?_take_of_lt hjk] at hj
    · rw [List.getElem?_eq_none (by rw [List.length_take]; omega)] at hj
      cases hj

theorem own_sl {w : World} {base : Nat} {e : TypeId} {v : Value} {l : List Int} (h : w.ownsRow base e 1 v l.length (U8 l)) : Sl w v l := by
  have hcs := fun g hg => h.cells (g := g) hg
  obtain ⟨_, ⟨rfl, h0⟩ | ⟨g, c, cur, rfl, _, _, hc, _⟩⟩ := h
  · exact .inl ⟨rfl, List.eq_nil_of_length_eq_zero h0⟩
  · refine .inr ⟨_, c, rfl, hc, fun j u hj => ?_⟩
    exact hcs g rfl j _ (by simp [U8, hj])
theorem own_cut {w : World} {base : Nat} {e : TypeId} {g n c : Nat} {l : List Int} (h : w.ownsRow base e 1 (.slice (some ⟨g, 0, none⟩) n c) l.length (U8 l)) {k : Nat} (hk : k ≤ l.length) : w.ownsRow base e 1 (.slice (some ⟨g, 0, none⟩) k c) (l.take k).length (U8 (l.take k)) := by
  have e1 : (l.take k).length = k := by rw [List.length_take]; omega
  obtain ⟨_, ⟨h, _⟩ | ⟨g', c', cur, hv, hb, hg, hn, hm, hs, ht⟩⟩ := h
  · cases h
  · cases hv
    refine ⟨by rw [U8_len]; omega, .inr ⟨g, c, cur, by rw [e1], hb, hg, by omega, hm, hs, ?_⟩⟩
    rw [e1, U8_take, ← ht, List.take_take, Nat.min_eq_left (by omega)]
    congr 1
    omega
theorem own_len {w : World} {base : Nat} {e : TypeId} {g n c : Nat} {l : List Int} (h : w.ownsRow base e 1 (.slice (some ⟨g, 0, none⟩) n c) l.length (U8 l)) : n = l.length ∧ n ≤ c := by
  obtain ⟨_, ⟨h, _⟩ | ⟨g', c', cur, hv, hb, hg, hn, hm, hs, ht⟩⟩ := h
  · cases h
  · cases hv
    exact ⟨rfl, hn⟩
theorem own_form {w : World} {base : Nat} {e : TypeId} {v : Value} {l : List Int} (h : w.ownsRow base e 1 v l.length (U8 l)) : (v = .slice none 0 0 ∧ l = []) ∨ ∃ g c, v = .slice (some ⟨g, 0, none⟩) l.length c ∧ l.length ≤ c := by
  obtain ⟨_, ⟨h, h0⟩ | ⟨g, c, cur, hv, hb, hg, hn, hm, hs, ht⟩⟩ := h
  · exact .inl ⟨h, List.eq_nil_of_length_eq_zero h0⟩
  · exact .inr ⟨g, c, hv, hn⟩
theorem own_keep {w w' : World} {base : Nat} {e : TypeId} {size : Nat} {v : Value} {n : Nat} {xs : List Value} (h : w.ownsRow base e size v n xs) {bs : List Nat} (k : Chg bs w w') (hb : ∀ x ∈ bs, v.ownBlock ≠ some x) : w'.ownsRow base e size v n xs := by
  refine ⟨h.1, ?_⟩
  rcases h.2 with hn | ⟨g, cap, cur, rfl, h1, hgg, rest⟩
  · exact .inl hn
  · refine .inr ⟨g, cap, cur, rfl, h1, ?_, rest⟩
    rw [k.block g (Array.getElem?_eq_some_iff.1 hgg).1 (fun hx => hb g hx rfl)]
    exact hgg
theorem own_base {w : World} {base base' : Nat} {e : TypeId} {size : Nat} {v : Value} {n : Nat} {xs : List Value} (h : w.ownsRow base e size v n xs) (hb : base' ≤ base) : w.ownsRow base' e size v n xs :=
  ⟨h.1, h.2.imp id (fun ⟨g, cap, cur, h1, h2, h3⟩ => ⟨g, cap, cur, h1, Nat.le_trans hb h2, h3⟩)⟩

/-- What Grown says of a list of blocks. -/
theorem Chg.grew {bs : List Nat} {a w w' : World} {row : Option Nat} (h : Chg bs a w) (hg : w.grownBy w' row) (hr : ∀ k, row = some k → k ∈ bs ∨ a.heap.size ≤ k) : Chg bs a w' :=
  ⟨hg.os.trans h.os, hg.tape.trans h.tape, hg.output.trans h.output, Nat.le_trans h.size hg.size, fun k hk hn => by
    rw [hg.block k (Nat.lt_of_lt_of_le hk h.size) (fun e => (hr k e.symm).elim hn (fun h1 => by omega))]
    exact h.block k hk hn⟩
theorem Chg.wide {bs cs : List Nat} {a w : World} (h : Chg bs a w) (hs : ∀ x ∈ bs, x ∈ cs) : Chg cs a w := ⟨h.os, h.tape, h.output, h.size, fun k hk hn => h.block k hk (fun hx => hn (hs k hx))⟩

/-- A disk (or the like) in block b: its epoch, and its bytes, that it owns. -/
structure Dsk (ty e8 : TypeId) (w : World) (base b : Nat) (ep : Int) (v : Value) (l : List Int) : Prop where
  blk : Blk w b #[.int .i64 ep, v] ty
  own : w.ownsRow base e8 1 v l.length (U8 l)
  few : l.length ≤ 1500
  ok : okB l
  ne : v.ownBlock ≠ some b
def fp (b : Nat) (v : Value) : List Nat := b :: v.ownBlock.toList
theorem mem_fp {x b : Nat} {v : Value} : x ∈ fp b v ↔ x = b ∨ v.ownBlock = some x := by
  unfold fp
  cases v.ownBlock <;> simp [eq_comm]
theorem Dsk.chg {ty e8 : TypeId} {w w' : World} {base b : Nat} {ep : Int} {v : Value} {l : List Int} (h : Dsk ty e8 w base b ep v l) {bs : List Nat} (k : Chg bs w w') (hb : ∀ x ∈ bs, x ∉ fp b v) : Dsk ty e8 w' base b ep v l :=
  ⟨h.blk.chg k (fun hx => hb b hx (mem_fp.2 (.inl rfl))), own_keep h.own k (fun x hx hv => hb x hx (mem_fp.2 (.inr hv))), h.few, h.ok, h.ne⟩
theorem Dsk.alloc {ty e8 : TypeId} {w : World} {base b : Nat} {ep : Int} {v : Value} {l : List Int} (h : Dsk ty e8 w base b ep v l) (o : Obj) : Dsk ty e8 (w.alloc o) base b ep v l :=
  h.chg ((Chg.refl [] w).alloc o) (by simp)
theorem Dsk.cells {ty e8 : TypeId} {w : World} {base b : Nat} {ep : Int} {v : Value} {l : List Int} (h : Dsk ty e8 w base b ep v l) : w.cell? ⟨b, 0, none⟩ = some (.int .i64 ep) ∧ w.cell? ⟨b, 1, none⟩ = some v ∧ b < w.heap.size ∧ w.frozen? ⟨b, 0, none⟩ = false ∧ w.frozen? ⟨b, 1, none⟩ = false :=
  ⟨h.blk.cell 0, h.blk.cell 1, h.blk.lt, h.blk.fz 0, h.blk.fz 1⟩
theorem Dsk.fp_lt {ty e8 : TypeId} {w : World} {base b : Nat} {ep : Int} {v : Value} {l : List Int} (h : Dsk ty e8 w base b ep v l) : ∀ x ∈ fp b v, x < w.heap.size := fun x hx => (mem_fp.1 hx).elim (fun e => e ▸ h.blk.lt) (fun e => (h.own.lt x e).2)
theorem Dsk.fp_ge {ty e8 : TypeId} {w : World} {base b : Nat} {ep : Int} {v : Value} {l : List Int} (h : Dsk ty e8 w base b ep v l) (hb : base ≤ b) : ∀ x ∈ fp b v, base ≤ x := fun x hx => (mem_fp.1 hx).elim (fun e => e ▸ hb) (fun e => (h.own.lt x e).1)

/-! ### The text of bytes -/
theorem str_conv {P : Program} {w : World} {v : Value} {l : List Int} (h : Sl w v l) (src e dst : TypeId) (hs : P.underlying src = some (.slice e)) (he : P.underlying e = some (.int .u8)) (hd : P.underlying dst = some .string) :
    (convert src dst v).run P w = .ok (.string (strOfNums l)) w := by
  rcases h with ⟨rfl, rfl⟩ | ⟨p, c, rfl, _, h⟩
  · exact run_convert_bytes_nil w src e hs he 0 0 dst hd
  · have hl : (loadCells p l.length).run P w = .ok (l.map (Value.int .u8)).toArray w := by
      have := run_loadCells_list (P := P) w p (l.map (Value.int .u8)) (fun j v hj => by
        simp only [List.getElem?_map, Option.map_eq_some_iff] at hj
        obtain ⟨x, h1, rfl⟩ := hj
        exact h j x h1)
      simpa using this
    rw [run_convert_bytes_string w src dst e _ l.length c hs he hd, run_bytesToString w _ l.length c l hl, foldl_push_bytes]
    simp [strOfNums, ByteArray.empty, ByteArray.emptyWithCapacity]
    rfl

end Go.Proofs.Ytkkffgojblopjaa
