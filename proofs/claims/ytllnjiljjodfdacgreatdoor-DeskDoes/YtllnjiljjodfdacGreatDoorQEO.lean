/-
 The program's obey of a desk. Nothing here is claimed by itself.
-/
import Derived.Test.YtllnjiljjodfdacGreatDoorQgEZ
namespace Go.Proofs.YtllnjiljjodfdacGreatDoor
open Go.RowKit

def wordsT (s : Gd) : List (List UInt8) → Gd × List UInt8
 | [] => (s, [])
 | w :: r => if w = wTear then (match r with
   | k :: v :: q => (match numL k with
    | none => (s, sayL wWhat)
    | some n => numsT s v q true n)
   | _ => (s, sayL wWhat))
  else numsT s w r false 0
theorem lineT_words (s : Gd) (l : List UInt8) : lineT s l = wordsT s (wordsL l) := by
 unfold lineT
 cases wordsL l with
 | nil => rfl
 | cons w r => rfl
theorem wordsT_tear (s : Gd) (r : List (List UInt8)) : wordsT s (wTear :: r) = tearT s r := by
 match r with
 | [] => show (if wTear = wTear then (s, sayL wWhat) else numsT s wTear [] false 0) = _; rw [if_pos rfl]; rfl
 | [k] => show (if wTear = wTear then (s, sayL wWhat) else numsT s wTear [k] false 0) = _; rw [if_pos rfl]; rfl
 | k :: x :: q =>
  show (if wTear = wTear then (match numL k with
    | none => (s, sayL wWhat)
    | some n => numsT s x q true n) else numsT s wTear (k :: x :: q) false 0) = tearT s (k :: x :: q)
  rw [if_pos rfl]
  cases hk : numL k with
  | none =>
   have e : tornP (k :: x :: q) = none := by unfold tornP; simp only [hk]
   unfold tearT
   rw [e]
  | some n =>
   cases hp : numbersP x q with
   | none =>
    have e : tornP (k :: x :: q) = none := by unfold tornP; simp only [hk, hp]
    unfold tearT
    rw [e]
    exact numsT_none hp
   | some ns =>
    obtain ⟨h1, h2, -⟩ := numsT_some (s := s) (tear := true) (keep := n) hp
    have e : tornP (k :: x :: q) = if (stepP x ns).k = 2 then some ⟨3, (stepP x ns).n, n, (stepP x ns).o⟩ else none := by unfold tornP; simp only [hk, hp]
    unfold tearT
    rw [e]
    refine h1.trans ((cmdT_torn h2).trans ?_)
    by_cases h3 : (stepP x ns).k = 2
    ·rw [if_pos h3, if_pos h3]
     rfl
    ·rw [if_neg h3, if_neg h3]
theorem wordsT_nums {s : Gd} {x : List UInt8} {r : List (List UInt8)} (h : ¬ x = wTear) : wordsT s (x :: r) = numsT s x r false 0 := by
 exact if_neg h
theorem view_job (s : Gd) (y0 y1 : Int) : viewT s wJob [y0, y1] = jobT s y0 y1 := by
 unfold viewT jobT
 rw [if_pos ⟨rfl, rfl⟩]
 rfl
theorem view_disk (s : Gd) : viewT s wDisk [] = sayL (listL wDisk [s.d.ep, s.d.l.length, s.now]) := by
 unfold viewT
 rw [if_neg (fun h => absurd h.1 (by decide)), if_pos ⟨rfl, rfl⟩]
theorem view_log (s : Gd) : viewT s wLog [] = logT s := by
 unfold viewT logT
 rw [if_neg (fun h => absurd h.1 (by decide)), if_neg (fun h => absurd h.1 (by decide)), if_pos ⟨rfl, rfl⟩]
theorem view_hold (s : Gd) (y0 : Int) : viewT s wHolders [y0] = holdT s y0 := by
 unfold viewT holdT
 rw [if_neg (fun h => absurd h.1 (by decide)), if_neg (fun h => absurd h.1 (by decide)), if_neg (fun h => absurd h.1 (by decide)), if_pos ⟨rfl, rfl⟩]
 rfl
theorem nms_three {w : World} {b : Nat} {x y z : Int} {t : TypeId} (hx : I64 x) (hy : I64 y) (hz : I64 z) (h : Blk w b #[.int .i64 x, .int .i64 y, .int .i64 z] t) : Nms w (some ⟨b, 0, none⟩) [x, y, z] := by
 refine ⟨fun u hu => by simp at hu; rcases hu with rfl | rfl | rfl <;> assumption, .inr ⟨b, 0, rfl, h.lt, fun i u hu => ?_⟩⟩
 rw [h.cell, Nat.zero_add]
 match i, hu with
 | 0, hu => simpa using hu
 | 1, hu => simpa using hu
 | 2, hu => simpa using hu
theorem dsayG {W0 w : World} {M : Dm} {s : Gd} {told : List UInt8} (D : Dq W0 w M s told) (a : Option Addr) (n c : Nat) (ws : List (List UInt8)) (x : List UInt8) (hS : StrsF w M a ws) (hl : ws.length = n) (hn : n ≤ 1000000) (hx : joinW ws = x) (hb : told.length + x.length ≤ 999999999) :
  Calls Tryz.prog 28 #[.pointer (some ⟨M.db, 0, none⟩), .slice a n c] w fun e w' => e = .returned (.tuple #[]) ∧ ∃ M', Dqn W0 w M w' M' s (told ++ sayL x) ∧ M'.g = M.g := by
 subst hx
 exact say_allG W0 M s told a n c ws w D hS hl hn hb
theorem own_nmsF {W0 w w' : World} {M : Dm} {s : Gd} {told : List UInt8} {base : Nat} {e : TypeId} {v : Value} {l : List Int} (D : Dq W0 w M s told) (hb : w.heap.size ≤ base) (h : w'.ownsRow base e 1 v l.length (l.map (.int .i64))) (hi : ∀ x ∈ l, I64 x) :
  ∃ a c, v = .slice a l.length c ∧ l.length ≤ c ∧ Nms w' a l ∧ (l = [] ∨ ∃ g off, a = some ⟨g, off, none⟩ ∧ g < w'.heap.size ∧ ¬ M.mine g ∧ ∀ i x, l[i]? = some x → w'.cell? ⟨g, off + i, none⟩ = some (.int .i64 x)) := by
 have hl := h.lt
 obtain ⟨a, c, rfl, hc, hN⟩ := own_nmsD h hi
 refine ⟨a, c, rfl, hc, hN, ?_⟩
 rcases hN.2 with h0 | ⟨g, off, rfl, hg, hcell⟩
 ·exact .inl h0
 ·by_cases h0 : l = []
  ·exact .inl h0
  ·refine .inr ⟨g, off, rfl, hg, ?_, hcell⟩
   have := (hl g (by
    obtain ⟨_, ⟨h1, h2⟩ | ⟨g', c', cur, h1, _⟩⟩ := h
    ·cases h1
    ·injection h1 with h1 _ _
     injection h1 with h1
     injection h1 with h1 h2 _
     subst h1
     subst h2
     rfl)).1
   exact D.free (Nat.le_trans hb this)
set_option maxRecDepth 100000 in
set_option maxHeartbeats 8000000 in
theorem obey_tear (W0 : World) (M : Dm) (s : Gd) (told : List UInt8) (g off m d : Nat) (x : List UInt8) (r : List (List UInt8)) (w : World) (D : Dq W0 w M s told) (hv : Vars W0) (hb : told.length ≤ 900000000) (hr : r.length = m) (hm : m ≤ 1000000) (hd : m ≤ d) (hl : ∀ y ∈ x :: r, y.length ≤ 1000000) (hg : g < w.heap.size) (hc : ∀ i y, (x :: r)[i]? = some y → w.cell? ⟨g, off + i, none⟩ = some (.string (strA y))) (hx : x = wTear) :
  Calls Tryz.prog 15 #[.pointer (some ⟨M.db, 0, none⟩), .slice (some ⟨g, off, none⟩) (m + 1) (d + 1)] w fun e w' => e = .returned (.tuple #[]) ∧ ∃ M', Dqn W0 w M w' M' (wordsT s (x :: r)).1 (told ++ (wordsT s (x :: r)).2) := by
 have p0 : w.cell? ⟨g, off, none⟩ = some (.string (strA x)) := hc 0 x rfl
 have HC := hide hc
 have HL := hide hl
 have HV := hide hv
 have HR := hide hr
 have HD := hide D
 have lb := D.lt
 have cg := D.cg
 have n0 : (0 : Int) < (m : Int) + 1 := by omega
 clear hc hl hv hr D
 have b0 := eqw (l := [116, 101, 97, 114]) hx
 have HT := hide (show wordsT s (x :: r) = tearT s r by rw [hx]; exact wordsT_tear s r)
 clear hx
 by_cases hd0 : d = 0
 ·obtain rfl : m = 0 := by omega
  have hr0 := List.eq_nil_of_length_eq_zero (unhide HR)
  subst hd0
  subst hr0
  go_enter Tryz.func15, Tryz.ntmps15
  go_wp2_with fail
  refine (dtear_any W0 M s told _ 0 0 [] _ (unhide HD) (unhide HV) hb rfl (by omega) (by omega) (by simp) (.inl rfl)).mono ?_
  rintro e w3 ⟨rfl, M3, X3⟩
  have HQ3 := hide X3
  clear X3
  go_wp2
  (try simp only [Exit.inBlock, Exit.then])
  refine bodyPost_ret (results_none rfl _ _ _) rfl ?_
  rw [unhide HT]
  exact ⟨rfl, M3, unhide HQ3⟩
 ·have HS := hide (show Strs w (some ⟨g, off + 1, none⟩) r from .inr ⟨g, off + 1, rfl, hg, fun i y hy => by rw [show off + 1 + i = off + (i + 1) by omega]; exact unhide HC (i + 1) y (by simpa using hy)⟩)
  go_enter Tryz.func15, Tryz.ntmps15
  go_wp2_with fail
  refine (dtear_any W0 M s told _ m d r _ (unhide HD) (unhide HV) hb (unhide HR) hd hm (fun y hy => unhide HL y (List.mem_cons_of_mem _ hy)) (unhide HS)).mono ?_
  rintro e w3 ⟨rfl, M3, X3⟩
  have HQ3 := hide X3
  clear X3
  go_wp2
  (try simp only [Exit.inBlock, Exit.then])
  refine bodyPost_ret (results_none rfl _ _ _) rfl ?_
  rw [unhide HT]
  exact ⟨rfl, M3, unhide HQ3⟩
set_option maxRecDepth 100000 in
set_option maxHeartbeats 8000000 in
theorem obey_what (W0 : World) (M : Dm) (s : Gd) (told : List UInt8) (g off m d : Nat) (x : List UInt8) (r : List (List UInt8)) (w : World) (D : Dq W0 w M s told) (hv : Vars W0) (hb : told.length ≤ 900000000) (hr : r.length = m) (hm : m ≤ 1000000) (hd : m ≤ d) (hl : ∀ y ∈ x :: r, y.length ≤ 1000000) (hg : g < w.heap.size) (hc : ∀ i y, (x :: r)[i]? = some y → w.cell? ⟨g, off + i, none⟩ = some (.string (strA y))) (hx : ¬ x = wTear) (hn : numbersP x r = none) :
  Calls Tryz.prog 15 #[.pointer (some ⟨M.db, 0, none⟩), .slice (some ⟨g, off, none⟩) (m + 1) (d + 1)] w fun e w' => e = .returned (.tuple #[]) ∧ ∃ M', Dqn W0 w M w' M' (wordsT s (x :: r)).1 (told ++ (wordsT s (x :: r)).2) := by
 have p0 : w.cell? ⟨g, off, none⟩ = some (.string (strA x)) := hc 0 x rfl
 have HC := hide hc
 have HL := hide hl
 have HV := hide hv
 have HR := hide hr
 have HD := hide D
 have lb := D.lt
 have cg := D.cg
 have n0 : (0 : Int) < (m : Int) + 1 := by omega
 clear hc hl hv hr D
 have HNN := hide hn
 clear hn
 have b0 := neqw (l := [116, 101, 97, 114]) hx
 have HS := hide (show Strs w (some ⟨g, off, none⟩) (x :: r) from .inr ⟨g, off, rfl, hg, unhide HC⟩)
 have HW := hide (wordsT_nums (s := s) (r := r) hx)
 clear hx
 go_enter Tryz.func15, Tryz.ntmps15
 go_wp2_with fail
 refine (numbers_any (some ⟨g, off, none⟩) m d x r _ (unhide HR) hm hd (unhide HL) (unhide HS) ((unhide HV).chg (unhide HD).c.ch)).mono ?_
 rintro e w1 ⟨v, rfl, hv1, g1⟩
 have D1 := (unhide HD).new g1
 have HQ1 := hide ((unhide HD).quiet g1)
 have p1 : w1.cell? ⟨g, off, none⟩ = some (.string (strA x)) := (g1.cell' (p := ⟨g, off, none⟩) hg (by simp)).trans p0
 have hg1 := Nat.lt_of_lt_of_le hg g1.size
 have cg1 := D1.cg
 clear p0 cg
 clear g1 hv1
 have hn := unhide HNN
 rw [hn]
 have HT := hide (show wordsT s (x :: r) = (s, sayL wWhat) by rw [unhide HW]; exact numsT_none hn)
 clear hn
 simp only [Option.isSome_none]
 have k2 := (Chg.refl [] w1).alloc (.cells #[.string (strA wWhat)] 9)
 have S2 := strs_one (D1.free (Nat.le_refl _)) (Blk.new w1 #[.string (strA wWhat)] 9)
 have D2 := D1.new k2
 have HQ2 := hide ((unhide HQ1).trans (D1.quiet k2))
 clear k2 D1
 go_wp2_with fail
 refine (dsay D2 M.db (unhide HQ2).db _ 1 1 [wWhat] wWhat S2 rfl (by omega) (joinW_one _) (by simp [wWhat]; omega)).mono ?_
 rintro e w3 ⟨rfl, M3, X3⟩
 have HQ3 := hide ((unhide HQ2).trans X3)
 clear X3 D2 S2
 go_wp2
 (try simp only [Exit.inBlock, Exit.then])
 refine bodyPost_ret (results_none rfl _ _ _) rfl ?_
 rw [unhide HT]
 exact ⟨rfl, M3, unhide HQ3⟩
set_option maxRecDepth 100000 in
set_option maxHeartbeats 8000000 in
theorem obey_job (W0 : World) (M : Dm) (s : Gd) (told : List UInt8) (g off m d : Nat) (x : List UInt8) (r : List (List UInt8)) (w : World) (D : Dq W0 w M s told) (hv : Vars W0) (hb : told.length ≤ 900000000) (hr : r.length = m) (hm : m ≤ 1000000) (hd : m ≤ d) (hl : ∀ y ∈ x :: r, y.length ≤ 1000000) (hg : g < w.heap.size) (hc : ∀ i y, (x :: r)[i]? = some y → w.cell? ⟨g, off + i, none⟩ = some (.string (strA y))) (hx : ¬ x = wTear) (ns : List Int) (hn : numbersP x r = some ns) (hw : x = wJob) :
  Calls Tryz.prog 15 #[.pointer (some ⟨M.db, 0, none⟩), .slice (some ⟨g, off, none⟩) (m + 1) (d + 1)] w fun e w' => e = .returned (.tuple #[]) ∧ ∃ M', Dqn W0 w M w' M' (wordsT s (x :: r)).1 (told ++ (wordsT s (x :: r)).2) := by
 have p0 : w.cell? ⟨g, off, none⟩ = some (.string (strA x)) := hc 0 x rfl
 have HC := hide hc
 have HL := hide hl
 have HV := hide hv
 have HR := hide hr
 have HD := hide D
 have lb := D.lt
 have cg := D.cg
 have n0 : (0 : Int) < (m : Int) + 1 := by omega
 clear hc hl hv hr D
 have HWQ := hide hw
 have HNN := hide hn
 clear hw hn
 have b0 := neqw (l := [116, 101, 97, 114]) hx
 have HS := hide (show Strs w (some ⟨g, off, none⟩) (x :: r) from .inr ⟨g, off, rfl, hg, unhide HC⟩)
 have HW := hide (wordsT_nums (s := s) (r := r) hx)
 clear hx
 go_enter Tryz.func15, Tryz.ntmps15
 go_wp2_with fail
 refine (numbers_any (some ⟨g, off, none⟩) m d x r _ (unhide HR) hm hd (unhide HL) (unhide HS) ((unhide HV).chg (unhide HD).c.ch)).mono ?_
 rintro e w1 ⟨v, rfl, hv1, g1⟩
 have D1 := (unhide HD).new g1
 have HQ1 := hide ((unhide HD).quiet g1)
 have p1 : w1.cell? ⟨g, off, none⟩ = some (.string (strA x)) := (g1.cell' (p := ⟨g, off, none⟩) hg (by simp)).trans p0
 have hg1 := Nat.lt_of_lt_of_le hg g1.size
 have cg1 := D1.cg
 clear p0 cg
 have hw := unhide HWQ
 have hn := unhide HNN
 rw [hn]
 simp only [Option.isSome_some]
 obtain ⟨hcm, hlen, hbd⟩ := numsT_some (s := s) (tear := false) (keep := 0) hn
 obtain ⟨an, cn, rfl, hcn, hN, hNF⟩ := own_nmsF (unhide HD) (Nat.le_refl _) (hv1 ns hn) hbd
 have HT := hide (show wordsT s (x :: r) = cmdT s x ns false 0 by rw [unhide HW]; exact hcm)
 have HNM := hide hN
 have HNF := hide hNF
 clear g1 hv1 hn hcm hbd hN hNF
 have s0 := eqw (x := x) (l := [106, 111, 98]) hw
 obtain ⟨y0, y1, rfl⟩ := lenD2 (by rw [hw] at hlen; exact Int.ofNat.inj (hlen.trans (by decide)))
 have HTV := hide (show cmdT s x [y0, y1] false 0 = (s, jobT s y0 y1) by rw [cmdT_view (by rw [hw]; decide), hw, view_job])
 clear hw hlen
 obtain h0 | ⟨gn, on, rfl, hgn, hgm, hcell⟩ := unhide HNF
 ·cases h0
 have y0c : w1.cell? ⟨gn, on, none⟩ = some (.int .i64 y0) := hcell 0 y0 rfl
 have y1c : w1.cell? ⟨gn, on + 1, none⟩ = some (.int .i64 y1) := hcell 1 y1 rfl
 clear hcell
 go_upto_region 8 with fail
 refine wp_region_noPanic ?_
 refine wp_region_held_drew (S := (fun w' => w'.cell? ⟨gn, on, none⟩ = some (.int .i64 y0) ∧ w'.cell? ⟨gn, on + 1, none⟩ = some (.int .i64 y1))) (by kernel_rfl) (show _ ∧ _ from ⟨y0c, y1c⟩) (fun hH => ?_)
 refine tk 0 rfl hH ?_
 walk_nrm
 refine tk 1 rfl hH ?_
 walk_nrm
 refine tk 2 rfl hH ?_
 walk_nrm
 refine tk 3 rfl hH ?_
 walk_nrm
 refine tk 4 rfl hH ?_
 walk_nrm
 refine tk 5 rfl hH ?_
 walk_nrm
 refine tk 6 rfl hH ?_
 walk_nrm
 refine rd 7 rfl (fun K hK => ?_)
 go_simp
 refine (djob_any W0 M s told y0 y1 _ (D1.new ((Chg.refl [] w1).drew)) (unhide HV) hb).mono ?_
 rintro e w3 ⟨rfl, M3, X3⟩
 have HQ3 := hide ((unhide HQ1).trans ((D1.quiet ((Chg.refl [] w1).drew)).trans X3))
 have t0 := (X3.cell (p := ⟨gn, on, none⟩) hgn hgm).trans y0c
 have t1 := (X3.cell (p := ⟨gn, on + 1, none⟩) hgn hgm).trans y1c
 clear X3
 refine hK.out _ _ ⟨t0, t1⟩ (fun hH2 => ?_)
 clear hK K hH
 have hH := hH2
 clear hH2
 walk_nrm
 refine wpAnyH_done (by kernel_rfl) ?_ _
 refine NoPanic.normal ?_
 clear hH t0 t1
 go_wp2
 go_end0
 rw [unhide HT, unhide HTV]
 exact ⟨rfl, M3, unhide HQ3⟩
set_option maxRecDepth 100000 in
set_option maxHeartbeats 8000000 in
theorem obey_log (W0 : World) (M : Dm) (s : Gd) (told : List UInt8) (g off m d : Nat) (x : List UInt8) (r : List (List UInt8)) (w : World) (D : Dq W0 w M s told) (hv : Vars W0) (hb : told.length ≤ 900000000) (hr : r.length = m) (hm : m ≤ 1000000) (hd : m ≤ d) (hl : ∀ y ∈ x :: r, y.length ≤ 1000000) (hg : g < w.heap.size) (hc : ∀ i y, (x :: r)[i]? = some y → w.cell? ⟨g, off + i, none⟩ = some (.string (strA y))) (hx : ¬ x = wTear) (ns : List Int) (hn : numbersP x r = some ns) (hw : x = wLog) :
  Calls Tryz.prog 15 #[.pointer (some ⟨M.db, 0, none⟩), .slice (some ⟨g, off, none⟩) (m + 1) (d + 1)] w fun e w' => e = .returned (.tuple #[]) ∧ ∃ M', Dqn W0 w M w' M' (wordsT s (x :: r)).1 (told ++ (wordsT s (x :: r)).2) := by
 have p0 : w.cell? ⟨g, off, none⟩ = some (.string (strA x)) := hc 0 x rfl
 have HC := hide hc
 have HL := hide hl
 have HV := hide hv
 have HR := hide hr
 have HD := hide D
 have lb := D.lt
 have cg := D.cg
 have n0 : (0 : Int) < (m : Int) + 1 := by omega
 clear hc hl hv hr D
 have HWQ := hide hw
 have HNN := hide hn
 clear hw hn
 have b0 := neqw (l := [116, 101, 97, 114]) hx
 have HS := hide (show Strs w (some ⟨g, off, none⟩) (x :: r) from .inr ⟨g, off, rfl, hg, unhide HC⟩)
 have HW := hide (wordsT_nums (s := s) (r := r) hx)
 clear hx
 go_enter Tryz.func15, Tryz.ntmps15
 go_wp2_with fail
 refine (numbers_any (some ⟨g, off, none⟩) m d x r _ (unhide HR) hm hd (unhide HL) (unhide HS) ((unhide HV).chg (unhide HD).c.ch)).mono ?_
 rintro e w1 ⟨v, rfl, hv1, g1⟩
 have D1 := (unhide HD).new g1
 have HQ1 := hide ((unhide HD).quiet g1)
 have p1 : w1.cell? ⟨g, off, none⟩ = some (.string (strA x)) := (g1.cell' (p := ⟨g, off, none⟩) hg (by simp)).trans p0
 have hg1 := Nat.lt_of_lt_of_le hg g1.size
 have cg1 := D1.cg
 clear p0 cg
 have hw := unhide HWQ
 have hn := unhide HNN
 rw [hn]
 simp only [Option.isSome_some]
 obtain ⟨hcm, hlen, hbd⟩ := numsT_some (s := s) (tear := false) (keep := 0) hn
 obtain ⟨an, cn, rfl, hcn, hN, hNF⟩ := own_nmsF (unhide HD) (Nat.le_refl _) (hv1 ns hn) hbd
 have HT := hide (show wordsT s (x :: r) = cmdT s x ns false 0 by rw [unhide HW]; exact hcm)
 have HNM := hide hN
 have HNF := hide hNF
 clear g1 hv1 hn hcm hbd hN hNF
 have s0 := neqw (x := x) (l := [106, 111, 98]) (by rw [hw]; decide)
 have s1 := neqw (x := x) (l := [100, 105, 115, 107]) (by rw [hw]; decide)
 have s2 := eqw (x := x) (l := [108, 111, 103]) hw
 obtain rfl : ns = [] := List.eq_nil_of_length_eq_zero (by rw [hw] at hlen; exact Int.ofNat.inj (hlen.trans (by decide)))
 have HTV := hide (show cmdT s x [] false 0 = (s, logT s) by rw [cmdT_view (by rw [hw]; decide), hw, view_log])
 clear hw hlen
 go_wp2_with fail
 refine (dlog_any W0 M s told _ D1 (unhide HV) hb).mono ?_
 rintro e w3 ⟨rfl, M3, X3⟩
 have HQ3 := hide ((unhide HQ1).trans X3)
 clear X3
 go_wp2
 go_end0
 rw [unhide HT, unhide HTV]
 exact ⟨rfl, M3, unhide HQ3⟩
set_option maxRecDepth 100000 in
set_option maxHeartbeats 8000000 in
theorem obey_holders (W0 : World) (M : Dm) (s : Gd) (told : List UInt8) (g off m d : Nat) (x : List UInt8) (r : List (List UInt8)) (w : World) (D : Dq W0 w M s told) (hv : Vars W0) (hb : told.length ≤ 900000000) (hr : r.length = m) (hm : m ≤ 1000000) (hd : m ≤ d) (hl : ∀ y ∈ x :: r, y.length ≤ 1000000) (hg : g < w.heap.size) (hc : ∀ i y, (x :: r)[i]? = some y → w.cell? ⟨g, off + i, none⟩ = some (.string (strA y))) (hx : ¬ x = wTear) (ns : List Int) (hn : numbersP x r = some ns) (hw : x = wHolders) :
  Calls Tryz.prog 15 #[.pointer (some ⟨M.db, 0, none⟩), .slice (some ⟨g, off, none⟩) (m + 1) (d + 1)] w fun e w' => e = .returned (.tuple #[]) ∧ ∃ M', Dqn W0 w M w' M' (wordsT s (x :: r)).1 (told ++ (wordsT s (x :: r)).2) := by
 have p0 : w.cell? ⟨g, off, none⟩ = some (.string (strA x)) := hc 0 x rfl
 have HC := hide hc
 have HL := hide hl
 have HV := hide hv
 have HR := hide hr
 have HD := hide D
 have lb := D.lt
 have cg := D.cg
 have n0 : (0 : Int) < (m : Int) + 1 := by omega
 clear hc hl hv hr D
 have HWQ := hide hw
 have HNN := hide hn
 clear hw hn
 have b0 := neqw (l := [116, 101, 97, 114]) hx
 have HS := hide (show Strs w (some ⟨g, off, none⟩) (x :: r) from .inr ⟨g, off, rfl, hg, unhide HC⟩)
 have HW := hide (wordsT_nums (s := s) (r := r) hx)
 clear hx
 go_enter Tryz.func15, Tryz.ntmps15
 go_wp2_with fail
 refine (numbers_any (some ⟨g, off, none⟩) m d x r _ (unhide HR) hm hd (unhide HL) (unhide HS) ((unhide HV).chg (unhide HD).c.ch)).mono ?_
 rintro e w1 ⟨v, rfl, hv1, g1⟩
 have D1 := (unhide HD).new g1
 have HQ1 := hide ((unhide HD).quiet g1)
 have p1 : w1.cell? ⟨g, off, none⟩ = some (.string (strA x)) := (g1.cell' (p := ⟨g, off, none⟩) hg (by simp)).trans p0
 have hg1 := Nat.lt_of_lt_of_le hg g1.size
 have cg1 := D1.cg
 clear p0 cg
 have hw := unhide HWQ
 have hn := unhide HNN
 rw [hn]
 simp only [Option.isSome_some]
 obtain ⟨hcm, hlen, hbd⟩ := numsT_some (s := s) (tear := false) (keep := 0) hn
 obtain ⟨an, cn, rfl, hcn, hN, hNF⟩ := own_nmsF (unhide HD) (Nat.le_refl _) (hv1 ns hn) hbd
 have HT := hide (show wordsT s (x :: r) = cmdT s x ns false 0 by rw [unhide HW]; exact hcm)
 have HNM := hide hN
 have HNF := hide hNF
 clear g1 hv1 hn hcm hbd hN hNF
 have s0 := neqw (x := x) (l := [106, 111, 98]) (by rw [hw]; decide)
 have s1 := neqw (x := x) (l := [100, 105, 115, 107]) (by rw [hw]; decide)
 have s2 := neqw (x := x) (l := [108, 111, 103]) (by rw [hw]; decide)
 have s3 := eqw (x := x) (l := [104, 111, 108, 100, 101, 114, 115]) hw
 obtain ⟨y0, rfl⟩ := lenD1 (by rw [hw] at hlen; exact Int.ofNat.inj (hlen.trans (by decide)))
 have HTV := hide (show cmdT s x [y0] false 0 = (s, holdT s y0) by rw [cmdT_view (by rw [hw]; decide), hw, view_hold])
 clear hw hlen
 obtain h0 | ⟨gn, on, rfl, hgn, hgm, hcell⟩ := unhide HNF
 ·cases h0
 have y0c : w1.cell? ⟨gn, on, none⟩ = some (.int .i64 y0) := hcell 0 y0 rfl
 clear hcell
 go_wp2_with fail
 refine (dhold_any W0 M s told y0 _ D1 (unhide HV) hb).mono ?_
 rintro e w3 ⟨rfl, M3, X3⟩
 have HQ3 := hide ((unhide HQ1).trans X3)
 clear X3
 go_wp2
 go_end0
 rw [unhide HT, unhide HTV]
 exact ⟨rfl, M3, unhide HQ3⟩
set_option maxRecDepth 100000 in
set_option maxHeartbeats 8000000 in
theorem obey_disk (W0 : World) (M : Dm) (s : Gd) (told : List UInt8) (g off m d : Nat) (x : List UInt8) (r : List (List UInt8)) (w : World) (D : Dq W0 w M s told) (hv : Vars W0) (hb : told.length ≤ 900000000) (hr : r.length = m) (hm : m ≤ 1000000) (hd : m ≤ d) (hl : ∀ y ∈ x :: r, y.length ≤ 1000000) (hg : g < w.heap.size) (hc : ∀ i y, (x :: r)[i]? = some y → w.cell? ⟨g, off + i, none⟩ = some (.string (strA y))) (hx : ¬ x = wTear) (ns : List Int) (hn : numbersP x r = some ns) (hw : x = wDisk) :
  Calls Tryz.prog 15 #[.pointer (some ⟨M.db, 0, none⟩), .slice (some ⟨g, off, none⟩) (m + 1) (d + 1)] w fun e w' => e = .returned (.tuple #[]) ∧ ∃ M', Dqn W0 w M w' M' (wordsT s (x :: r)).1 (told ++ (wordsT s (x :: r)).2) := by
 have p0 : w.cell? ⟨g, off, none⟩ = some (.string (strA x)) := hc 0 x rfl
 have HC := hide hc
 have HL := hide hl
 have HV := hide hv
 have HR := hide hr
 have HD := hide D
 have lb := D.lt
 have cg := D.cg
 have n0 : (0 : Int) < (m : Int) + 1 := by omega
 clear hc hl hv hr D
 have HWQ := hide hw
 have HNN := hide hn
 clear hw hn
 have b0 := neqw (l := [116, 101, 97, 114]) hx
 have HS := hide (show Strs w (some ⟨g, off, none⟩) (x :: r) from .inr ⟨g, off, rfl, hg, unhide HC⟩)
 have HW := hide (wordsT_nums (s := s) (r := r) hx)
 clear hx
 go_enter Tryz.func15, Tryz.ntmps15
 go_wp2_with fail
 refine (numbers_any (some ⟨g, off, none⟩) m d x r _ (unhide HR) hm hd (unhide HL) (unhide HS) ((unhide HV).chg (unhide HD).c.ch)).mono ?_
 rintro e w1 ⟨v, rfl, hv1, g1⟩
 have D1 := (unhide HD).new g1
 have HQ1 := hide ((unhide HD).quiet g1)
 have p1 : w1.cell? ⟨g, off, none⟩ = some (.string (strA x)) := (g1.cell' (p := ⟨g, off, none⟩) hg (by simp)).trans p0
 have hg1 := Nat.lt_of_lt_of_le hg g1.size
 have cg1 := D1.cg
 clear p0 cg
 have hw := unhide HWQ
 have hn := unhide HNN
 rw [hn]
 simp only [Option.isSome_some]
 obtain ⟨hcm, hlen, hbd⟩ := numsT_some (s := s) (tear := false) (keep := 0) hn
 obtain ⟨an, cn, rfl, hcn, hN, hNF⟩ := own_nmsF (unhide HD) (Nat.le_refl _) (hv1 ns hn) hbd
 have HT := hide (show wordsT s (x :: r) = cmdT s x ns false 0 by rw [unhide HW]; exact hcm)
 have HNM := hide hN
 have HNF := hide hNF
 clear g1 hv1 hn hcm hbd hN hNF
 have s0 := neqw (x := x) (l := [106, 111, 98]) (by rw [hw]; decide)
 have s1 := eqw (x := x) (l := [100, 105, 115, 107]) hw
 obtain rfl : ns = [] := List.eq_nil_of_length_eq_zero (by rw [hw] at hlen; exact Int.ofNat.inj (hlen.trans (by decide)))
 have HTV := hide (show cmdT s x [] false 0 = (s, sayL (listL wDisk [s.d.ep, s.d.l.length, s.now])) by rw [cmdT_view (by rw [hw]; decide), hw, view_disk])
 clear hw hlen
 obtain ⟨rs, t, pl⟩ := D1.c.pl
 have hdf := D1.c.dsk.few
 have hI : I64 s.d.ep ∧ I64 (s.d.l.length : Int) ∧ I64 s.now := by
  have := pl.e0; have := pl.e1; have := pl.n0; have := pl.n1
  unfold I64
  omega
 have HLB : told.length + (listL wDisk [s.d.ep, (s.d.l.length : Int), s.now]).length ≤ 999999999 := by
  have := list_len wDisk [s.d.ep, (s.d.l.length : Int), s.now] (by
   intro z hz
   have := pl.e0; have := pl.e1; have := pl.n0; have := pl.n1
   simp at hz
   unfold Sm
   rcases hz with rfl | rfl | rfl <;> omega)
  simp only [List.length_cons, List.length_nil, show wDisk.length = 4 from rfl] at this
  omega
 clear pl
 go_upto_region 10 with fail
 refine wp_region_noPanic ?_
 refine wp_region_held_drew (S := (fun w' => w'.cell? ⟨M.db, 2, none⟩ = some (.pointer (some ⟨M.g.gb, 0, none⟩)) ∧ w'.cell? ⟨M.g.gb, 0, none⟩ = some (.pointer (some ⟨M.g.db, 0, none⟩)))) (by kernel_rfl) (show _ ∧ _ from ⟨cg1, D1.dk.1⟩) (fun hH => ?_)
 refine tk 0 rfl hH ?_
 walk_nrm
 refine tk 1 rfl hH ?_
 walk_nrm
 refine tk 2 rfl hH ?_
 walk_nrm
 refine tk 3 rfl hH ?_
 walk_nrm
 refine tk 4 rfl hH ?_
 walk_nrm
 refine tk 5 rfl hH ?_
 walk_nrm
 refine tk 6 rfl hH ?_
 walk_nrm
 refine tk 7 rfl hH ?_
 walk_nrm
 refine tk 9 rfl hH ?_
 walk_nrm
 refine tk 10 rfl hH ?_
 walk_nrm
 refine tk 11 rfl hH ?_
 walk_nrm
 refine tk 12 rfl hH ?_
 walk_nrm
 refine tk 13 rfl hH ?_
 walk_nrm
 refine tk 14 rfl hH ?_
 walk_nrm
 refine tk 15 rfl hH ?_
 walk_nrm
 refine tk 18 rfl hH ?_
 walk_nrm
 refine tk 19 rfl hH ?_
 walk_nrm
 refine tk 20 rfl hH ?_
 walk_nrm
 refine tk 21 rfl hH ?_
 walk_nrm
 refine rd 8 rfl (fun K hK => ?_)
 go_simp
 refine (depoch_any M.g.db s.d.ep M.g.v s.d.l W0.heap.size w1.drew (D1.new ((Chg.refl [] w1).drew)).c.dsk).mono ?_
 rintro e w2 ⟨rfl, rfl⟩
 refine hK.out _ _ (show _ ∧ _ from ⟨cg1, D1.dk.1⟩) (fun hH2 => ?_)
 clear hK K hH
 have hH := hH2
 clear hH2
 walk_nrm
 refine rd 16 rfl (fun K hK => ?_)
 go_simp
 refine (dbyt (D1.new ((Chg.refl [] w1).drew))).mono ?_
 rintro e w2 ⟨a2, c2, rfl, -, -, g2⟩
 have G2 := ((Chg.refl [] w1).drew).trans g2 (by simp)
 have D2 := D1.new G2
 have HQ2 := hide ((unhide HQ1).trans (D1.quiet G2))
 clear g2 G2
 refine hK.out _ _ (show _ ∧ _ from ⟨D2.cg, D2.dk.1⟩) (fun hH2 => ?_)
 clear hK K hH
 have hH := hH2
 clear hH2
 walk_nrm
 refine tk 17 rfl hH ?_
 walk_nrm
 refine rd 22 rfl (fun K hK => ?_)
 go_simp
 refine (gnow_any W0 M.g s w2 D2.c).mono ?_
 rintro e w2 ⟨rfl, rfl⟩
 refine hK.out _ _ (show _ ∧ _ from ⟨D2.cg, D2.dk.1⟩) (fun hH2 => ?_)
 clear hK K hH
 have hH := hH2
 clear hH2
 walk_nrm
 refine rd 23 rfl (fun K hK => ?_)
 go_simp
 have k3 := (Chg.refl [] w2).alloc (.cells #[.int .i64 s.d.ep, .int .i64 (s.d.l.length : Int), .int .i64 s.now] 3)
 have N3 := nms_three (x := s.d.ep) (y := s.d.l.length) (z := s.now) hI.1 hI.2.1 hI.2.2 (Blk.new w2 #[.int .i64 s.d.ep, .int .i64 (s.d.l.length : Int), .int .i64 s.now] 3)
 have D3 := D2.new k3
 have HQ3 := hide ((unhide HQ2).trans (D2.quiet k3))
 clear k3
 generalize w2.alloc (.cells #[.int .i64 s.d.ep, .int .i64 (s.d.l.length : Int), .int .i64 s.now] 3) = w3 at *
 refine hK.out _ _ (show _ ∧ _ from ⟨D3.cg, D3.dk.1⟩) (fun hH2 => ?_)
 clear hK K hH
 have hH := hH2
 clear hH2
 walk_nrm
 refine rd 24 rfl (fun K hK => ?_)
 go_simp
 refine (dwith D3 (unhide HV) wDisk _ 3 3 [s.d.ep, (s.d.l.length : Int), s.now] rfl (by omega) N3).mono ?_
 rintro e w4 ⟨av, cv, rfl, S4, g4⟩
 have D4 := D3.new g4
 have HQ4 := hide ((unhide HQ3).trans (D3.quiet g4))
 clear g4 N3 D3
 refine hK.out _ _ (show _ ∧ _ from ⟨D4.cg, D4.dk.1⟩) (fun hH2 => ?_)
 clear hK K hH
 have hH := hH2
 clear hH2
 walk_nrm
 refine rd 25 rfl (fun K hK => ?_)
 go_simp
 refine (dsayG D4 av _ cv _ _ S4 rfl (by simp) (joinW_list _ _) HLB).mono ?_
 rintro e w5 ⟨rfl, M5, X5, g5⟩
 have HQ5 := hide ((unhide HQ4).trans X5)
 obtain ⟨e5, f5⟩ : w5.cell? ⟨M.db, 2, none⟩ = some (.pointer (some ⟨M.g.gb, 0, none⟩)) ∧ w5.cell? ⟨M.g.gb, 0, none⟩ = some (.pointer (some ⟨M.g.db, 0, none⟩)) := ⟨by have := X5.k.cg; rw [X5.db, g5] at this; exact this, by have := X5.k.dk.1; rw [g5] at this; exact this⟩
 clear X5 S4 D4
 refine hK.out _ _ ⟨e5, f5⟩ (fun hH2 => ?_)
 clear hK K hH
 have hH := hH2
 clear hH2
 walk_nrm
 refine wpAnyH_done (by kernel_rfl) ?_ _
 refine NoPanic.normal ?_
 clear hH e5 f5
 go_wp2
 go_end0
 rw [unhide HT, unhide HTV]
 exact ⟨rfl, M5, unhide HQ5⟩
set_option maxRecDepth 100000 in
set_option maxHeartbeats 8000000 in
theorem obey_step (W0 : World) (M : Dm) (s : Gd) (told : List UInt8) (g off m d : Nat) (x : List UInt8) (r : List (List UInt8)) (w : World) (D : Dq W0 w M s told) (hv : Vars W0) (hb : told.length ≤ 900000000) (hr : r.length = m) (hm : m ≤ 1000000) (hd : m ≤ d) (hl : ∀ y ∈ x :: r, y.length ≤ 1000000) (hg : g < w.heap.size) (hc : ∀ i y, (x :: r)[i]? = some y → w.cell? ⟨g, off + i, none⟩ = some (.string (strA y))) (hx : ¬ x = wTear) (ns : List Int) (hn : numbersP x r = some ns) (hw : isStepW x = true) :
  Calls Tryz.prog 15 #[.pointer (some ⟨M.db, 0, none⟩), .slice (some ⟨g, off, none⟩) (m + 1) (d + 1)] w fun e w' => e = .returned (.tuple #[]) ∧ ∃ M', Dqn W0 w M w' M' (wordsT s (x :: r)).1 (told ++ (wordsT s (x :: r)).2) := by
 have p0 : w.cell? ⟨g, off, none⟩ = some (.string (strA x)) := hc 0 x rfl
 have HC := hide hc
 have HL := hide hl
 have HV := hide hv
 have HR := hide hr
 have HD := hide D
 have lb := D.lt
 have cg := D.cg
 have n0 : (0 : Int) < (m : Int) + 1 := by omega
 clear hc hl hv hr D
 have HWQ := hide hw
 have HNN := hide hn
 clear hw hn
 have b0 := neqw (l := [116, 101, 97, 114]) hx
 have HS := hide (show Strs w (some ⟨g, off, none⟩) (x :: r) from .inr ⟨g, off, rfl, hg, unhide HC⟩)
 have HW := hide (wordsT_nums (s := s) (r := r) hx)
 clear hx
 go_enter Tryz.func15, Tryz.ntmps15
 go_wp2_with fail
 refine (numbers_any (some ⟨g, off, none⟩) m d x r _ (unhide HR) hm hd (unhide HL) (unhide HS) ((unhide HV).chg (unhide HD).c.ch)).mono ?_
 rintro e w1 ⟨v, rfl, hv1, g1⟩
 have D1 := (unhide HD).new g1
 have HQ1 := hide ((unhide HD).quiet g1)
 have p1 : w1.cell? ⟨g, off, none⟩ = some (.string (strA x)) := (g1.cell' (p := ⟨g, off, none⟩) hg (by simp)).trans p0
 have hg1 := Nat.lt_of_lt_of_le hg g1.size
 have cg1 := D1.cg
 clear p0 cg
 have hw := unhide HWQ
 have hn := unhide HNN
 rw [hn]
 simp only [Option.isSome_some]
 obtain ⟨hcm, hlen, hbd⟩ := numsT_some (s := s) (tear := false) (keep := 0) hn
 obtain ⟨an, cn, rfl, hcn, hN, hNF⟩ := own_nmsF (unhide HD) (Nat.le_refl _) (hv1 ns hn) hbd
 have HT := hide (show wordsT s (x :: r) = cmdT s x ns false 0 by rw [unhide HW]; exact hcm)
 have HNM := hide hN
 have HNF := hide hNF
 clear g1 hv1 hn hcm hbd hN hNF
 have e : ∀ y, isStepW y = false → ¬ x = y := fun y hy h => by rw [h, hy] at hw; cases hw
 have s0 := neqw (x := x) (l := [106, 111, 98]) (e wJob (by decide))
 have s1 := neqw (x := x) (l := [100, 105, 115, 107]) (e wDisk (by decide))
 have s2 := neqw (x := x) (l := [108, 111, 103]) (e wLog (by decide))
 have s3 := neqw (x := x) (l := [104, 111, 108, 100, 101, 114, 115]) (e wHolders (by decide))
 have HTV := hide (cmdT_step (s := s) hlen hw)
 have HLEN := hide hlen
 clear e hw hlen
 go_wp2_with fail
 refine (stepof_any x an cn ns _ hcn (unhide HLEN) (unhide HNM)).mono ?_
 rintro e w2 ⟨rfl, g2⟩
 have D2 := D1.new g2
 have HQ2 := hide ((unhide HQ1).trans (D1.quiet g2))
 generalize stepP x ns = sp at *
 clear g2 D1
 go_wp2_with fail
 refine (dstep_any W0 M s told sp _ D2 (unhide HV) hb).mono ?_
 rintro e w3 ⟨rfl, M3, X3⟩
 have HQ3 := hide ((unhide HQ2).trans X3)
 clear X3
 go_wp2
 go_end0
 rw [unhide HT, unhide HTV]
 exact ⟨rfl, M3, unhide HQ3⟩
theorem dobey_any (W0 : World) (M : Dm) (s : Gd) (told : List UInt8) (a : Option Addr) (n c : Nat) (ws : List (List UInt8)) (w : World) (D : Dq W0 w M s told) (hv : Vars W0) (hb : told.length ≤ 900000000) (hne : ws ≠ []) (hn : ws.length = n) (hm : n ≤ 1000000) (hc : n ≤ c) (hl : ∀ y ∈ ws, y.length ≤ 1000000) (h : Strs w a ws) :
  Calls Tryz.prog 15 #[.pointer (some ⟨M.db, 0, none⟩), .slice a n c] w fun e w' => e = .returned (.tuple #[]) ∧ ∃ M', Dqn W0 w M w' M' (wordsT s ws).1 (told ++ (wordsT s ws).2) := by
 match ws, hne, hn, hl, h with
 | x :: r, _, hn, hl, h =>
  rcases h with h0 | ⟨g, off, rfl, hg, hcell⟩
  ·cases h0
  simp only [List.length_cons] at hn
  obtain ⟨d, rfl⟩ : ∃ d, c = d + 1 := ⟨c - 1, by omega⟩
  subst hn
  by_cases hx : x = wTear
  ·exact obey_tear W0 M s told g off r.length d x r w D hv hb rfl (by omega) (by omega) hl hg hcell hx
  ·cases hp : numbersP x r with
   | none => exact obey_what W0 M s told g off r.length d x r w D hv hb rfl (by omega) (by omega) hl hg hcell hx hp
   | some ns =>
    have hlen := (numsT_some (s := s) (tear := false) (keep := 0) hp).2.1
    by_cases hs : isStepW x = true
    ·exact obey_step W0 M s told g off r.length d x r w D hv hb rfl (by omega) (by omega) hl hg hcell hx ns hp hs
    ·rcases countW_cases hlen with ⟨hw, -⟩ | ⟨hw, -⟩ | ⟨hw, -⟩ | ⟨hw, -⟩ | ⟨hw, -⟩ | ⟨hw, -⟩ | ⟨hw, -⟩ | ⟨hw, -⟩ | ⟨hw, -⟩ | ⟨hw, -⟩ | ⟨hw, -⟩ | ⟨hw, -⟩
     ·exact obey_disk W0 M s told g off r.length d x r w D hv hb rfl (by omega) (by omega) hl hg hcell hx ns hp hw
     ·exact obey_log W0 M s told g off r.length d x r w D hv hb rfl (by omega) (by omega) hl hg hcell hx ns hp hw
     ·exact absurd (by rw [hw]; decide) hs
     ·exact absurd (by rw [hw]; decide) hs
     ·exact absurd (by rw [hw]; decide) hs
     ·exact obey_holders W0 M s told g off r.length d x r w D hv hb rfl (by omega) (by omega) hl hg hcell hx ns hp hw
     ·exact absurd (by rw [hw]; decide) hs
     ·exact obey_job W0 M s told g off r.length d x r w D hv hb rfl (by omega) (by omega) hl hg hcell hx ns hp hw
     ·exact absurd (by rw [hw]; decide) hs
     ·exact absurd (by rw [hw]; decide) hs
     ·exact absurd (by rw [hw]; decide) hs
     ·exact absurd (by rw [hw]; decide) hs
end Go.Proofs.YtllnjiljjodfdacGreatDoor
