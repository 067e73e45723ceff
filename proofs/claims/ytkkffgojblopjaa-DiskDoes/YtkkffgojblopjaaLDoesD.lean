/-
  The walk of the law 'every Epoch, Bytes, Raise, Append and Cut is as the document says'. Nothing here is claimed by itself.
-/
import Derived.Test.YtkkffgojblopjaaK6
import Derived.BigQuiet
import Derived.Conc.WalkWords
namespace Go.Proofs.Ytkkffgojblopjaa
open Go.RowKit

set_option maxRecDepth 100000 in
set_option maxHeartbeats 8000000 in
theorem doesD_row (a1 : Option Addr) (n1 c1 : Nat) (fs : Nat → Ds) (w : World) (hF : Stps w a1 n1 fs) :
    Calls Try.prog 14 #[.slice a1 n1 c1] w fun e w' => e = .returned (.bool true) ∧ Chg [] w w' := by
  have hcp : ∀ (W : World) (v : Value) (l : List Int), Sl W v l → (convert 49 9 v).run Try.prog W = .ok (.string (strOfNums l)) W := fun W v l h => kStr l W v h
  have HCP := hide hcp
  clear hcp
  have HF := hide hF
  clear hF
  go_enter Try.func14, Try.ntmps14
  go_wp2_with fail
  refine (dbegun_any _).mono ?_
  rintro e w1 ⟨rfl, g1⟩
  have stp1 : ∀ {a : Option Addr} {n : Nat} {f : Nat → Ds}, Stps w a n f → Stps w1 a n f := fun h => h.imp id (fun ⟨bl, off, e1, hb, hc⟩ => ⟨bl, off, e1, Nat.lt_of_lt_of_le hb g1.size, fun i hi => (hc i hi).chg g1 hb⟩)
  have S1 := hide (stp1 (unhide HF))
  clear stp1
  go_wp2_with fail
  refine (great_any a1 n1 c1 fs _ (unhide S1)).mono ?_
  rintro e w2 ⟨⟨b1, rfl, hb1⟩, rfl⟩
  cases b1
  case true =>
    go_wp2
    go_ret
    exact ⟨rfl, g1⟩
  case false =>
  have q1 := (hb1 rfl).1
  have HX := hide (hb1 rfl).2
  clear hb1 S1
  go_wp2_with fail
  refine (dnew_any _).mono ?_
  rintro e w4 ⟨rfl, D4, g4⟩
  have z1 := g1.size
  have z4 := D4.blk.lt
  have HD := hide (D4.low z1)
  have HG := hide (g1.trans g4 (by simp))
  clear D4 g4 g1
  go_wp2_with fail
  go_loopw [5] (fun i wr => ∃ (k : Nat) (ep : Int) (v u : Value) (l : List Int), k ≤ n1 ∧ i = .int .i64 k ∧ 0 ≤ ep ∧ ep ≤ 100 ∧ Dsk 93 5 wr w.heap.size w2.heap.size ep v l ∧ Plt 69 wr w4.heap.size ep u l ∧ Apart (fp w4.heap.size u) (fp w2.heap.size v) ∧ (∀ x ∈ fp w4.heap.size u, w.heap.size ≤ x) ∧ Chg [] w wr) (fun i _ => n1 - (intOf i).toNat)
  case atStart => exact ⟨0, 0, _, .slice none 0 0, [], by omega, rfl, by omega, by omega, (unhide HD).alloc _, ⟨Blk.new w4 _ _, .inl ⟨rfl, rfl⟩, by simp, okB_nil, by simp [Value.ownBlock], by simp [Value.ownBlock]⟩, by intro x hx; simp [fp, Value.ownBlock] at hx ⊢; omega, by intro x hx; simp [fp, Value.ownBlock] at hx; omega, (unhide HG).alloc _⟩
  case round =>
    obtain ⟨k, ep, v, u, l, hk, rfl, e0, e1, D, P, A, B, G⟩ := hrel
    clear HD HG
    generalize hdb : w2.heap.size = db at *
    generalize hpb : w4.heap.size = pb at *
    clear hdb hpb
    by_cases hlt : k < n1
    · have hki : (k : Int) < (n1 : Int) := by omega
      have hk0 : (0 : Int) ≤ (k : Int) := by omega
      rcases unhide HF with h0 | ⟨bl, off, rfl, hbl, hO⟩
      · omega
      have hL := hO k hlt
      have HL := hide hL
      have hx2 := unhide HX k hlt
      clear hO hL
      generalize fs k = s at *
      obtain ⟨sd, se, sn, sv, sx⟩ := s
      obtain ⟨-, -, -, -, hsl, hok, -⟩ := unhide HL
      simp only at hsl hok hx2
      obtain ⟨av, cv, rfl⟩ := sl_slice hsl
      have HS := hide hsl
      have HK := hide hok
      clear hsl hok
      obtain ⟨p0, p1, p2, p3, -⟩ := (unhide HL).chg G hbl
      simp only at p0 p1 p2 p3
      have zr := G.size
      obtain ⟨y0, y1, ly, -, -⟩ := P.cells
      have HA := hide A
      have HB := hide B
      have HD := hide (D.alloc (.cells #[.int .i64 sd, .int .i64 se, .int .i64 sn, .slice av sx.length cv] 71))
      have HP := hide (P.alloc (.cells #[.int .i64 sd, .int .i64 se, .int .i64 sn, .slice av sx.length cv] 71))
      have HG := hide (G.alloc (.cells #[.int .i64 sd, .int .i64 se, .int .i64 sn, .slice av sx.length cv] 71))
      have XX := Blk.new wr #[.int .i64 sd, .int .i64 se, .int .i64 sn, .slice av sx.length cv] 71
      have lD := hide D.fp_lt
      have lP := hide P.fp_lt
      have gD := hide (D.fp_ge z1)
      obtain ⟨x0, x1, x2, x3, lx⟩ := XX.cells4
      have HX1 := hide XX
      clear A B D P G XX
      go_wp2_with fail
      go_quiet (fail)
      have D := (unhide HD).chg ((Chg.refl [] _).drewN nq) (by simp)
      have P := (unhide HP).chg ((Chg.refl [] _).drewN nq) (by simp)
      have G := (unhide HG).drewN nq
      have X : Blk ((wr.alloc (.cells #[.int .i64 sd, .int .i64 se, .int .i64 sn, .slice av sx.length cv] 71)).drewN nq) wr.heap.size #[.int .i64 sd, .int .i64 se, .int .i64 sn, .slice av sx.length cv] 71 := unhide HX1
      clear HD HP HG HX1 p0 p1 p2 p3 x0 x1 x2 x3 lx y0 y1 ly
      generalize hxb : wr.heap.size = xb at *
      generalize (wr.alloc (.cells #[.int .i64 sd, .int .i64 se, .int .i64 sn, .slice av sx.length cv] 71)).drewN nq = W at *
      clear hxb
      obtain ⟨x0, x1, x2, x3, lx⟩ := X.cells4
      have A := unhide HA
      have B := unhide HB
      have pdb : db ∈ fp db v := mem_fp.2 (.inl rfl)
      have ppb : pb ∈ fp pb u := mem_fp.2 (.inl rfl)
      have nxD : ∀ x ∈ fp db v, x ≠ xb := fun x hx e => absurd (unhide lD x hx) (by omega)
      have nxP : ∀ x ∈ fp pb u, x ≠ xb := fun x hx e => absurd (unhide lP x hx) (by omega)
      have dp : db ≠ pb := fun e => A pb ppb (e ▸ pdb)
      have zW := G.size
      generalize hE : wrap64 (ep - se) = ee at *
      clear hE
      by_cases h0 : sd = 0
      · have b0 : (sd == 0) = true := by simpa using h0
        clear h0
        go_wp2_with (first
          | (go_at_call 38; refine (draise_any db ep v l _ _ D e0 e1).mono ?_; rintro e w6 ⟨rfl, D6, g6⟩; have P6 := P.chg g6 (by intro x hx; simp at hx; subst hx; exact fun hf => A _ hf pdb); have G6 := G.trans g6 (by intro x hx; simp at hx; subst hx; exact .inr (unhide gD _ pdb)); clear g6)
          | (go_at_call 39; refine (praise_any pb ep u l _ P6 e0 e1).mono ?_; rintro e w7 ⟨rfl, P7, g7⟩; have D7 := D6.chg g7 (by intro x hx; simp at hx; subst hx; exact A _ ppb); have G7 := G6.trans g7 (by intro x hx; simp at hx; subst hx; exact .inr (B _ ppb)); clear g7))
        have A7 := A
        have B7 := B
        have Df := D7.drew
        have Pf := P7.drew
        have Gf := G7.drew
        obtain ⟨y0, y1, ly, -, -⟩ := Pf.cells
        have hcu := kStr _ _ _ Pf.sl
        refine wp_region_noPanic ?_
        refine wp_region_held_drew (S := fun w' => w'.cell? ⟨pb, 0, none⟩ = some (.int .i64 (rsE ep)) ∧ w'.cell? ⟨pb, 1, none⟩ = some u ∧ (convert 49 9 u).run Try.prog w' = .ok (.string (strOfNums l)) w') (by kernel_rfl) ⟨y0, y1, hcu⟩ (fun hH => ?_)
        refine wpAnyH_take (i := 0) (v := ?_) rfl (by kernel_rfl) (by kernel_rfl) (by kernel_rfl) (fun _ _ _ h => h) (Or.inl ⟨by rfl, ?hzb0⟩) hH ?rzb0
        case hzb0 => (intro W' hSw; (try dsimp only at hSw); go_simp; try with_reducible rfl)
        walk_nrm
        refine wpAnyH_take (i := 2) (v := ?_) rfl (by kernel_rfl) (by kernel_rfl) (by kernel_rfl) (fun _ _ _ h => h) (Or.inl ⟨by rfl, ?hzb2⟩) hH ?rzb2
        case hzb2 => (intro W' hSw; (try dsimp only at hSw); go_simp; try with_reducible rfl)
        walk_nrm
        refine wpAnyH_take (i := 3) (v := ?_) rfl (by kernel_rfl) (by kernel_rfl) (by kernel_rfl) (fun _ _ _ h => h) (Or.inl ⟨by rfl, ?hzb3⟩) hH ?rzb3
        case hzb3 => (intro W' hSw; (try dsimp only at hSw); go_simp; try with_reducible rfl)
        walk_nrm
        refine wpAnyH_take (i := 4) (v := ?_) rfl (by kernel_rfl) (by kernel_rfl) (by kernel_rfl) (fun _ _ _ h => h) (Or.inl ⟨by rfl, ?hzb4⟩) hH ?rzb4
        case hzb4 => (intro W' hSw; (try dsimp only at hSw); go_simp; try with_reducible rfl)
        walk_nrm
        refine wpAnyH_take (i := 5) (v := ?_) rfl (by kernel_rfl) (by kernel_rfl) (by kernel_rfl) (fun _ _ _ h => h) (Or.inl ⟨by rfl, ?hzb5⟩) hH ?rzb5
        case hzb5 => (intro W' hSw; (try dsimp only at hSw); go_simp; try with_reducible rfl)
        walk_nrm
        refine wpAnyH_ready (rs := [1]) (by kernel_rfl) (by simp) ?_
        refine AllReadyH.cons rfl (fun K hK => ?_) AllReadyH.nil
        rw [if_pos (by rfl)]
        go_simp
        refine (depoch_any db (rsE ep) _ l _ _ Df).mono ?_
        rintro e w' ⟨rfl, rfl⟩
        refine hK.out _ _ hH (fun hH => ?_)
        clear hK K
        walk_nrm
        refine wpAnyH_take (i := 6) (v := ?_) rfl (by kernel_rfl) (by kernel_rfl) (by kernel_rfl) (fun _ _ _ h => h) (Or.inl ⟨by rfl, ?hzb6⟩) hH ?rzb6
        case hzb6 => (intro W' hSw; (try dsimp only at hSw); go_simp; try with_reducible rfl)
        walk_nrm
        refine wpAnyH_take (i := 7) (v := ?_) rfl (by kernel_rfl) (by kernel_rfl) (by kernel_rfl) (fun _ _ _ h => h) (Or.inl ⟨by rfl, ?hzb7⟩) hH ?rzb7
        case hzb7 => (intro W' hSw; (try dsimp only at hSw); go_simp; try with_reducible rfl)
        walk_nrm
        refine wpAnyH_take (i := 8) (v := ?_) rfl (by kernel_rfl) (by kernel_rfl) (by kernel_rfl) (fun _ _ _ h => h) (Or.inl ⟨by rfl, ?hzb8⟩) hH ?rzb8
        case hzb8 => (intro W' hSw; (try dsimp only at hSw); go_simp; try with_reducible rfl)
        walk_nrm
        refine wpAnyH_take (i := 11) (v := ?_) rfl (by kernel_rfl) (by kernel_rfl) (by kernel_rfl) (fun _ _ _ h => h) (Or.inl ⟨by rfl, ?hzb11⟩) hH ?rzb11
        case hzb11 => (intro W' hSw; (try dsimp only at hSw); go_simp; try with_reducible rfl)
        walk_nrm
        refine wpAnyH_take (i := 12) (v := ?_) rfl (by kernel_rfl) (by kernel_rfl) (by kernel_rfl) (fun _ _ _ h => h) (Or.inl ⟨by rfl, ?hzb12⟩) hH ?rzb12
        case hzb12 => (intro W' hSw; (try dsimp only at hSw); go_simp; try with_reducible rfl)
        walk_nrm
        refine wpAnyH_take (i := 13) (v := ?_) rfl (by kernel_rfl) (by kernel_rfl) (by kernel_rfl) (fun _ _ _ h => h) (Or.inl ⟨by rfl, ?hzb13⟩) hH ?rzb13
        case hzb13 => (intro W' hSw; (try dsimp only at hSw); go_simp; try with_reducible rfl)
        walk_nrm
        refine wpAnyH_take (i := 14) (v := ?_) rfl (by kernel_rfl) (by kernel_rfl) (by kernel_rfl) (fun _ _ _ h => h) (Or.inl ⟨by rfl, ?hzb14⟩) hH ?rzb14
        case hzb14 => (intro W' hSw; (try dsimp only at hSw); go_simp; try with_reducible rfl)
        walk_nrm
        refine wpAnyH_take (i := 15) (v := ?_) rfl (by kernel_rfl) (by kernel_rfl) (by kernel_rfl) (fun _ _ _ h => h) (Or.inl ⟨by rfl, ?hzb15⟩) hH ?rzb15
        case hzb15 => (intro W' hSw; (try dsimp only at hSw); go_simp; try with_reducible rfl)
        walk_nrm
        refine wpAnyH_ready (rs := [9]) (by kernel_rfl) (by simp) ?_
        refine AllReadyH.cons rfl (fun K hK => ?_) AllReadyH.nil
        rw [if_pos (by rfl)]
        go_simp
        refine (dbytes_any db (rsE ep) _ l _ _ Df).mono ?_
        rintro e w8 ⟨v8, rfl, own8, g8⟩
        have hc8 := kStr _ w8 v8 (own_sl own8)
        have D8 := Df.chg g8 (by simp)
        have P8 := Pf.chg g8 (by simp)
        have G8 := Gf.trans g8 (by simp)
        have hcu8 := kStr _ w8 _ P8.sl
        obtain ⟨t0, t1, lt, -, -⟩ := P8.cells
        clear g8 own8
        refine hK.out _ _ ⟨t0, t1, hcu8⟩ (fun hH => ?_)
        clear hK K
        walk_nrm
        refine wpAnyH_ready (rs := [10]) (by kernel_rfl) (by simp) ?_
        refine AllReadyH.cons rfl (fun K hK => ?_) AllReadyH.nil
        rw [if_pos (by rfl)]
        go_simp
        refine hK.out _ _ hH (fun hH => ?_)
        clear hK K
        walk_nrm
        refine wpAnyH_take (i := 16) (v := ?_) rfl (by kernel_rfl) (by kernel_rfl) (by kernel_rfl) (fun _ _ _ h => h) (Or.inl ⟨by rfl, ?hzb16⟩) hH ?rzb16
        case hzb16 => (intro W' hSw; (try dsimp only at hSw); go_simp; try with_reducible rfl)
        walk_nrm
        refine wpAnyH_take (i := 17) (v := ?_) rfl (by kernel_rfl) (by kernel_rfl) (by kernel_rfl) (fun _ _ _ h => h) (Or.inl ⟨by rfl, ?hzb17⟩) hH ?rzb17
        case hzb17 => (intro W' hSw; (try dsimp only at hSw); go_simp; try with_reducible rfl)
        walk_nrm
        refine wpAnyH_done (by kernel_rfl) ?_ _
        refine NoPanic.normal ?_
        clear hH hcu hcu8 hc8 t0 t1 lt y0 y1 ly
        go_wp2
        go_roundw
        case rel => exact ⟨k + 1, (rsE ep), _, _, l, by omega, by go_num, (rsE_bd e0 e1).1, (rsE_bd e0 e1).2, D8, P8, A7, B7, G8⟩
        case measure => go_light; simp [intOf]; omega
      have b0 : (sd == 0) = false := by simpa using h0
      by_cases h1 : sd = 1
      · have b1 : (sd == 1) = true := by simpa using h1
        clear h0 h1
        go_wp2_with fail
        have Dd := D.drew
        have Pd := P.drew
        have Gd := G.drew
        have Xd : Blk W.drew xb #[.int .i64 sd, .int .i64 se, .int .i64 sn, .slice av sx.length cv] 71 := X
        obtain ⟨x0, x1, x2, x3, lx⟩ := Xd.cells4
        go_region_held3 (fun w' => w'.cell? ⟨xb, 3, none⟩ = some (.slice av sx.length cv)) (first | exact x3 | exact z3 | exact o3) (first
          | (go_at_call 40; refine (dapp_any db ep v l _ _ _ sx _ Dd ((unhide HS).chg Gd (by simp)) (unhide HK) Gd.size).mono ?_; rintro e w6 ⟨rfl, v6, D6, g6, n6⟩; have P6 := Pd.chg g6 (fun x hx hf => A x hf hx); have G6 := Gd.trans g6 (fun x hx => .inr (unhide gD x hx)); have A6 := (A.symm.step n6.pnx (fun y hy => Pd.fp_lt y hy)).symm; obtain ⟨z0, z1', z2, z3, lz⟩ := (Xd.chg g6 (fun hx => nxD _ hx rfl)).cells4; have g6' := g6; clear g6)
          | (go_at_call 41; refine (papp_any pb ep u l _ _ sx _ P6 ((unhide HS).chg G6 (by simp)) (unhide HK) (by omega)).mono ?_; rintro e w7 ⟨rfl, u7, P7, g7, n7⟩; have D7 := D6.chg g7 (by intro x hx; simp at hx; subst hx; exact A6 _ ppb); have G7 := G6.trans g7 (by intro x hx; simp at hx; subst hx; exact .inr (B _ ppb)); have A7 := A6.step n7 (fun y hy => D6.fp_lt y hy); have B7 := fp_ge_step B n7 G6.size; obtain ⟨o0, o1, o2, o3, lo⟩ := ((Xd.chg g6' (fun hx => nxD _ hx rfl)).chg g7 (by intro hx; simp at hx; exact nxP _ ppb hx.symm)).cells4; clear g7))
        go_wp2_with fail
        have Df := D7.drew
        have Pf := P7.drew
        have Gf := G7.drew
        obtain ⟨y0, y1, ly, -, -⟩ := Pf.cells
        have hcu := kStr _ _ _ Pf.sl
        refine wp_region_noPanic ?_
        refine wp_region_held_drew (S := fun w' => w'.cell? ⟨pb, 0, none⟩ = some (.int .i64 ep) ∧ w'.cell? ⟨pb, 1, none⟩ = some u7 ∧ (convert 49 9 u7).run Try.prog w' = .ok (.string (strOfNums (apL ep l sx ee))) w') (by kernel_rfl) ⟨y0, y1, hcu⟩ (fun hH => ?_)
        refine wpAnyH_take (i := 0) (v := ?_) rfl (by kernel_rfl) (by kernel_rfl) (by kernel_rfl) (fun _ _ _ h => h) (Or.inl ⟨by rfl, ?hzc0⟩) hH ?rzc0
        case hzc0 => (intro W' hSw; (try dsimp only at hSw); go_simp; try with_reducible rfl)
        walk_nrm
        refine wpAnyH_take (i := 2) (v := ?_) rfl (by kernel_rfl) (by kernel_rfl) (by kernel_rfl) (fun _ _ _ h => h) (Or.inl ⟨by rfl, ?hzc2⟩) hH ?rzc2
        case hzc2 => (intro W' hSw; (try dsimp only at hSw); go_simp; try with_reducible rfl)
        walk_nrm
        refine wpAnyH_take (i := 3) (v := ?_) rfl (by kernel_rfl) (by kernel_rfl) (by kernel_rfl) (fun _ _ _ h => h) (Or.inl ⟨by rfl, ?hzc3⟩) hH ?rzc3
        case hzc3 => (intro W' hSw; (try dsimp only at hSw); go_simp; try with_reducible rfl)
        walk_nrm
        refine wpAnyH_take (i := 4) (v := ?_) rfl (by kernel_rfl) (by kernel_rfl) (by kernel_rfl) (fun _ _ _ h => h) (Or.inl ⟨by rfl, ?hzc4⟩) hH ?rzc4
        case hzc4 => (intro W' hSw; (try dsimp only at hSw); go_simp; try with_reducible rfl)
        walk_nrm
        refine wpAnyH_take (i := 5) (v := ?_) rfl (by kernel_rfl) (by kernel_rfl) (by kernel_rfl) (fun _ _ _ h => h) (Or.inl ⟨by rfl, ?hzc5⟩) hH ?rzc5
        case hzc5 => (intro W' hSw; (try dsimp only at hSw); go_simp; try with_reducible rfl)
        walk_nrm
        refine wpAnyH_ready (rs := [1]) (by kernel_rfl) (by simp) ?_
        refine AllReadyH.cons rfl (fun K hK => ?_) AllReadyH.nil
        rw [if_pos (by rfl)]
        go_simp
        refine (depoch_any db ep _ (apL ep l sx ee) _ _ Df).mono ?_
        rintro e w' ⟨rfl, rfl⟩
        refine hK.out _ _ hH (fun hH => ?_)
        clear hK K
        walk_nrm
        refine wpAnyH_take (i := 6) (v := ?_) rfl (by kernel_rfl) (by kernel_rfl) (by kernel_rfl) (fun _ _ _ h => h) (Or.inl ⟨by rfl, ?hzc6⟩) hH ?rzc6
        case hzc6 => (intro W' hSw; (try dsimp only at hSw); go_simp; try with_reducible rfl)
        walk_nrm
        refine wpAnyH_take (i := 7) (v := ?_) rfl (by kernel_rfl) (by kernel_rfl) (by kernel_rfl) (fun _ _ _ h => h) (Or.inl ⟨by rfl, ?hzc7⟩) hH ?rzc7
        case hzc7 => (intro W' hSw; (try dsimp only at hSw); go_simp; try with_reducible rfl)
        walk_nrm
        refine wpAnyH_take (i := 8) (v := ?_) rfl (by kernel_rfl) (by kernel_rfl) (by kernel_rfl) (fun _ _ _ h => h) (Or.inl ⟨by rfl, ?hzc8⟩) hH ?rzc8
        case hzc8 => (intro W' hSw; (try dsimp only at hSw); go_simp; try with_reducible rfl)
        walk_nrm
        refine wpAnyH_take (i := 11) (v := ?_) rfl (by kernel_rfl) (by kernel_rfl) (by kernel_rfl) (fun _ _ _ h => h) (Or.inl ⟨by rfl, ?hzc11⟩) hH ?rzc11
        case hzc11 => (intro W' hSw; (try dsimp only at hSw); go_simp; try with_reducible rfl)
        walk_nrm
        refine wpAnyH_take (i := 12) (v := ?_) rfl (by kernel_rfl) (by kernel_rfl) (by kernel_rfl) (fun _ _ _ h => h) (Or.inl ⟨by rfl, ?hzc12⟩) hH ?rzc12
        case hzc12 => (intro W' hSw; (try dsimp only at hSw); go_simp; try with_reducible rfl)
        walk_nrm
        refine wpAnyH_take (i := 13) (v := ?_) rfl (by kernel_rfl) (by kernel_rfl) (by kernel_rfl) (fun _ _ _ h => h) (Or.inl ⟨by rfl, ?hzc13⟩) hH ?rzc13
        case hzc13 => (intro W' hSw; (try dsimp only at hSw); go_simp; try with_reducible rfl)
        walk_nrm
        refine wpAnyH_take (i := 14) (v := ?_) rfl (by kernel_rfl) (by kernel_rfl) (by kernel_rfl) (fun _ _ _ h => h) (Or.inl ⟨by rfl, ?hzc14⟩) hH ?rzc14
        case hzc14 => (intro W' hSw; (try dsimp only at hSw); go_simp; try with_reducible rfl)
        walk_nrm
        refine wpAnyH_take (i := 15) (v := ?_) rfl (by kernel_rfl) (by kernel_rfl) (by kernel_rfl) (fun _ _ _ h => h) (Or.inl ⟨by rfl, ?hzc15⟩) hH ?rzc15
        case hzc15 => (intro W' hSw; (try dsimp only at hSw); go_simp; try with_reducible rfl)
        walk_nrm
        refine wpAnyH_ready (rs := [9]) (by kernel_rfl) (by simp) ?_
        refine AllReadyH.cons rfl (fun K hK => ?_) AllReadyH.nil
        rw [if_pos (by rfl)]
        go_simp
        refine (dbytes_any db ep _ (apL ep l sx ee) _ _ Df).mono ?_
        rintro e w8 ⟨v8, rfl, own8, g8⟩
        have hc8 := kStr _ w8 v8 (own_sl own8)
        have D8 := Df.chg g8 (by simp)
        have P8 := Pf.chg g8 (by simp)
        have G8 := Gf.trans g8 (by simp)
        have hcu8 := kStr _ w8 _ P8.sl
        obtain ⟨t0, t1, lt, -, -⟩ := P8.cells
        clear g8 own8
        refine hK.out _ _ ⟨t0, t1, hcu8⟩ (fun hH => ?_)
        clear hK K
        walk_nrm
        refine wpAnyH_ready (rs := [10]) (by kernel_rfl) (by simp) ?_
        refine AllReadyH.cons rfl (fun K hK => ?_) AllReadyH.nil
        rw [if_pos (by rfl)]
        go_simp
        refine hK.out _ _ hH (fun hH => ?_)
        clear hK K
        walk_nrm
        refine wpAnyH_take (i := 16) (v := ?_) rfl (by kernel_rfl) (by kernel_rfl) (by kernel_rfl) (fun _ _ _ h => h) (Or.inl ⟨by rfl, ?hzc16⟩) hH ?rzc16
        case hzc16 => (intro W' hSw; (try dsimp only at hSw); go_simp; try with_reducible rfl)
        walk_nrm
        refine wpAnyH_take (i := 17) (v := ?_) rfl (by kernel_rfl) (by kernel_rfl) (by kernel_rfl) (fun _ _ _ h => h) (Or.inl ⟨by rfl, ?hzc17⟩) hH ?rzc17
        case hzc17 => (intro W' hSw; (try dsimp only at hSw); go_simp; try with_reducible rfl)
        walk_nrm
        refine wpAnyH_done (by kernel_rfl) ?_ _
        refine NoPanic.normal ?_
        clear hH hcu hcu8 hc8 t0 t1 lt y0 y1 ly
        go_wp2
        go_roundw
        case rel => exact ⟨k + 1, ep, _, _, (apL ep l sx ee), by omega, by go_num, e0, e1, D8, P8, A7, B7, G8⟩
        case measure => go_light; simp [intOf]; omega
      have b1 : (sd == 1) = false := by simpa using h1
      by_cases h2 : sd = 2
      · have b2 : (sd == 2) = true := by simpa using h2
        clear h0 h1 h2
        go_wp2_with fail
        have Dd := D.drew
        have Pd := P.drew
        have Gd := G.drew
        have Xd : Blk W.drew xb #[.int .i64 sd, .int .i64 se, .int .i64 sn, .slice av sx.length cv] 71 := X
        obtain ⟨x0, x1, x2, x3, lx⟩ := Xd.cells4
        go_region_held3 (fun w' => w'.cell? ⟨xb, 2, none⟩ = some (.int .i64 sn)) (first | exact x2 | exact z2 | exact o2) (first
          | (go_at_call 42; refine (dcut_any db ep v l _ _ _ _ Dd).mono ?_; rintro e w6 ⟨rfl, v6, D6, g6, n6⟩; have P6 := Pd.chg g6 (fun x hx hf => A x hf hx); have G6 := Gd.trans g6 (fun x hx => .inr (unhide gD x hx)); have A6 := (A.symm.step n6.pnx (fun y hy => Pd.fp_lt y hy)).symm; obtain ⟨z0, z1', z2, z3, lz⟩ := (Xd.chg g6 (fun hx => nxD _ hx rfl)).cells4; have g6' := g6; clear g6)
          | (go_at_call 43; refine (pcut_any pb ep u l _ _ _ P6).mono ?_; rintro e w7 ⟨rfl, u7, P7, g7, n7⟩; have D7 := D6.chg g7 (by intro x hx; simp at hx; subst hx; exact A6 _ ppb); have G7 := G6.trans g7 (by intro x hx; simp at hx; subst hx; exact .inr (B _ ppb)); have A7 := A6.step n7 (fun y hy => D6.fp_lt y hy); have B7 := fp_ge_step B n7 G6.size; obtain ⟨o0, o1, o2, o3, lo⟩ := ((Xd.chg g6' (fun hx => nxD _ hx rfl)).chg g7 (by intro hx; simp at hx; exact nxP _ ppb hx.symm)).cells4; clear g7))
        go_wp2_with fail
        have Df := D7.drew
        have Pf := P7.drew
        have Gf := G7.drew
        obtain ⟨y0, y1, ly, -, -⟩ := Pf.cells
        have hcu := kStr _ _ _ Pf.sl
        refine wp_region_noPanic ?_
        refine wp_region_held_drew (S := fun w' => w'.cell? ⟨pb, 0, none⟩ = some (.int .i64 ep) ∧ w'.cell? ⟨pb, 1, none⟩ = some u7 ∧ (convert 49 9 u7).run Try.prog w' = .ok (.string (strOfNums (ctL ep l ee sn))) w') (by kernel_rfl) ⟨y0, y1, hcu⟩ (fun hH => ?_)
        refine wpAnyH_take (i := 0) (v := ?_) rfl (by kernel_rfl) (by kernel_rfl) (by kernel_rfl) (fun _ _ _ h => h) (Or.inl ⟨by rfl, ?hzd0⟩) hH ?rzd0
        case hzd0 => (intro W' hSw; (try dsimp only at hSw); go_simp; try with_reducible rfl)
        walk_nrm
        refine wpAnyH_take (i := 2) (v := ?_) rfl (by kernel_rfl) (by kernel_rfl) (by kernel_rfl) (fun _ _ _ h => h) (Or.inl ⟨by rfl, ?hzd2⟩) hH ?rzd2
        case hzd2 => (intro W' hSw; (try dsimp only at hSw); go_simp; try with_reducible rfl)
        walk_nrm
        refine wpAnyH_take (i := 3) (v := ?_) rfl (by kernel_rfl) (by kernel_rfl) (by kernel_rfl) (fun _ _ _ h => h) (Or.inl ⟨by rfl, ?hzd3⟩) hH ?rzd3
        case hzd3 => (intro W' hSw; (try dsimp only at hSw); go_simp; try with_reducible rfl)
        walk_nrm
        refine wpAnyH_take (i := 4) (v := ?_) rfl (by kernel_rfl) (by kernel_rfl) (by kernel_rfl) (fun _ _ _ h => h) (Or.inl ⟨by rfl, ?hzd4⟩) hH ?rzd4
        case hzd4 => (intro W' hSw; (try dsimp only at hSw); go_simp; try with_reducible rfl)
        walk_nrm
        refine wpAnyH_take (i := 5) (v := ?_) rfl (by kernel_rfl) (by kernel_rfl) (by kernel_rfl) (fun _ _ _ h => h) (Or.inl ⟨by rfl, ?hzd5⟩) hH ?rzd5
        case hzd5 => (intro W' hSw; (try dsimp only at hSw); go_simp; try with_reducible rfl)
        walk_nrm
        refine wpAnyH_ready (rs := [1]) (by kernel_rfl) (by simp) ?_
        refine AllReadyH.cons rfl (fun K hK => ?_) AllReadyH.nil
        rw [if_pos (by rfl)]
        go_simp
        refine (depoch_any db ep _ (ctL ep l ee sn) _ _ Df).mono ?_
        rintro e w' ⟨rfl, rfl⟩
        refine hK.out _ _ hH (fun hH => ?_)
        clear hK K
        walk_nrm
        refine wpAnyH_take (i := 6) (v := ?_) rfl (by kernel_rfl) (by kernel_rfl) (by kernel_rfl) (fun _ _ _ h => h) (Or.inl ⟨by rfl, ?hzd6⟩) hH ?rzd6
        case hzd6 => (intro W' hSw; (try dsimp only at hSw); go_simp; try with_reducible rfl)
        walk_nrm
        refine wpAnyH_take (i := 7) (v := ?_) rfl (by kernel_rfl) (by kernel_rfl) (by kernel_rfl) (fun _ _ _ h => h) (Or.inl ⟨by rfl, ?hzd7⟩) hH ?rzd7
        case hzd7 => (intro W' hSw; (try dsimp only at hSw); go_simp; try with_reducible rfl)
        walk_nrm
        refine wpAnyH_take (i := 8) (v := ?_) rfl (by kernel_rfl) (by kernel_rfl) (by kernel_rfl) (fun _ _ _ h => h) (Or.inl ⟨by rfl, ?hzd8⟩) hH ?rzd8
        case hzd8 => (intro W' hSw; (try dsimp only at hSw); go_simp; try with_reducible rfl)
        walk_nrm
        refine wpAnyH_take (i := 11) (v := ?_) rfl (by kernel_rfl) (by kernel_rfl) (by kernel_rfl) (fun _ _ _ h => h) (Or.inl ⟨by rfl, ?hzd11⟩) hH ?rzd11
        case hzd11 => (intro W' hSw; (try dsimp only at hSw); go_simp; try with_reducible rfl)
        walk_nrm
        refine wpAnyH_take (i := 12) (v := ?_) rfl (by kernel_rfl) (by kernel_rfl) (by kernel_rfl) (fun _ _ _ h => h) (Or.inl ⟨by rfl, ?hzd12⟩) hH ?rzd12
        case hzd12 => (intro W' hSw; (try dsimp only at hSw); go_simp; try with_reducible rfl)
        walk_nrm
        refine wpAnyH_take (i := 13) (v := ?_) rfl (by kernel_rfl) (by kernel_rfl) (by kernel_rfl) (fun _ _ _ h => h) (Or.inl ⟨by rfl, ?hzd13⟩) hH ?rzd13
        case hzd13 => (intro W' hSw; (try dsimp only at hSw); go_simp; try with_reducible rfl)
        walk_nrm
        refine wpAnyH_take (i := 14) (v := ?_) rfl (by kernel_rfl) (by kernel_rfl) (by kernel_rfl) (fun _ _ _ h => h) (Or.inl ⟨by rfl, ?hzd14⟩) hH ?rzd14
        case hzd14 => (intro W' hSw; (try dsimp only at hSw); go_simp; try with_reducible rfl)
        walk_nrm
        refine wpAnyH_take (i := 15) (v := ?_) rfl (by kernel_rfl) (by kernel_rfl) (by kernel_rfl) (fun _ _ _ h => h) (Or.inl ⟨by rfl, ?hzd15⟩) hH ?rzd15
        case hzd15 => (intro W' hSw; (try dsimp only at hSw); go_simp; try with_reducible rfl)
        walk_nrm
        refine wpAnyH_ready (rs := [9]) (by kernel_rfl) (by simp) ?_
        refine AllReadyH.cons rfl (fun K hK => ?_) AllReadyH.nil
        rw [if_pos (by rfl)]
        go_simp
        refine (dbytes_any db ep _ (ctL ep l ee sn) _ _ Df).mono ?_
        rintro e w8 ⟨v8, rfl, own8, g8⟩
        have hc8 := kStr _ w8 v8 (own_sl own8)
        have D8 := Df.chg g8 (by simp)
        have P8 := Pf.chg g8 (by simp)
        have G8 := Gf.trans g8 (by simp)
        have hcu8 := kStr _ w8 _ P8.sl
        obtain ⟨t0, t1, lt, -, -⟩ := P8.cells
        clear g8 own8
        refine hK.out _ _ ⟨t0, t1, hcu8⟩ (fun hH => ?_)
        clear hK K
        walk_nrm
        refine wpAnyH_ready (rs := [10]) (by kernel_rfl) (by simp) ?_
        refine AllReadyH.cons rfl (fun K hK => ?_) AllReadyH.nil
        rw [if_pos (by rfl)]
        go_simp
        refine hK.out _ _ hH (fun hH => ?_)
        clear hK K
        walk_nrm
        refine wpAnyH_take (i := 16) (v := ?_) rfl (by kernel_rfl) (by kernel_rfl) (by kernel_rfl) (fun _ _ _ h => h) (Or.inl ⟨by rfl, ?hzd16⟩) hH ?rzd16
        case hzd16 => (intro W' hSw; (try dsimp only at hSw); go_simp; try with_reducible rfl)
        walk_nrm
        refine wpAnyH_take (i := 17) (v := ?_) rfl (by kernel_rfl) (by kernel_rfl) (by kernel_rfl) (fun _ _ _ h => h) (Or.inl ⟨by rfl, ?hzd17⟩) hH ?rzd17
        case hzd17 => (intro W' hSw; (try dsimp only at hSw); go_simp; try with_reducible rfl)
        walk_nrm
        refine wpAnyH_done (by kernel_rfl) ?_ _
        refine NoPanic.normal ?_
        clear hH hcu hcu8 hc8 t0 t1 lt y0 y1 ly
        go_wp2
        go_roundw
        case rel => exact ⟨k + 1, ep, _, _, (ctL ep l ee sn), by omega, by go_num, e0, e1, D8, P8, A7, B7, G8⟩
        case measure => go_light; simp [intOf]; omega
      have b2 : (sd == 2) = false := by simpa using h2
      clear h0 h1 h2
      have D7 := D
      have P7 := P
      have G7 := G
      have A7 := A
      have B7 := B
      go_wp2_with fail
      have Df := D7.drew
      have Pf := P7.drew
      have Gf := G7.drew
      obtain ⟨y0, y1, ly, -, -⟩ := Pf.cells
      have hcu := kStr _ _ _ Pf.sl
      refine wp_region_noPanic ?_
      refine wp_region_held_drew (S := fun w' => w'.cell? ⟨pb, 0, none⟩ = some (.int .i64 ep) ∧ w'.cell? ⟨pb, 1, none⟩ = some u ∧ (convert 49 9 u).run Try.prog w' = .ok (.string (strOfNums l)) w') (by kernel_rfl) ⟨y0, y1, hcu⟩ (fun hH => ?_)
      refine wpAnyH_take (i := 0) (v := ?_) rfl (by kernel_rfl) (by kernel_rfl) (by kernel_rfl) (fun _ _ _ h => h) (Or.inl ⟨by rfl, ?hze0⟩) hH ?rze0
      case hze0 => (intro W' hSw; (try dsimp only at hSw); go_simp; try with_reducible rfl)
      walk_nrm
      refine wpAnyH_take (i := 2) (v := ?_) rfl (by kernel_rfl) (by kernel_rfl) (by kernel_rfl) (fun _ _ _ h => h) (Or.inl ⟨by rfl, ?hze2⟩) hH ?rze2
      case hze2 => (intro W' hSw; (try dsimp only at hSw); go_simp; try with_reducible rfl)
      walk_nrm
      refine wpAnyH_take (i := 3) (v := ?_) rfl (by kernel_rfl) (by kernel_rfl) (by kernel_rfl) (fun _ _ _ h => h) (Or.inl ⟨by rfl, ?hze3⟩) hH ?rze3
      case hze3 => (intro W' hSw; (try dsimp only at hSw); go_simp; try with_reducible rfl)
      walk_nrm
      refine wpAnyH_take (i := 4) (v := ?_) rfl (by kernel_rfl) (by kernel_rfl) (by kernel_rfl) (fun _ _ _ h => h) (Or.inl ⟨by rfl, ?hze4⟩) hH ?rze4
      case hze4 => (intro W' hSw; (try dsimp only at hSw); go_simp; try with_reducible rfl)
      walk_nrm
      refine wpAnyH_take (i := 5) (v := ?_) rfl (by kernel_rfl) (by kernel_rfl) (by kernel_rfl) (fun _ _ _ h => h) (Or.inl ⟨by rfl, ?hze5⟩) hH ?rze5
      case hze5 => (intro W' hSw; (try dsimp only at hSw); go_simp; try with_reducible rfl)
      walk_nrm
      refine wpAnyH_ready (rs := [1]) (by kernel_rfl) (by simp) ?_
      refine AllReadyH.cons rfl (fun K hK => ?_) AllReadyH.nil
      rw [if_pos (by rfl)]
      go_simp
      refine (depoch_any db ep _ l _ _ Df).mono ?_
      rintro e w' ⟨rfl, rfl⟩
      refine hK.out _ _ hH (fun hH => ?_)
      clear hK K
      walk_nrm
      refine wpAnyH_take (i := 6) (v := ?_) rfl (by kernel_rfl) (by kernel_rfl) (by kernel_rfl) (fun _ _ _ h => h) (Or.inl ⟨by rfl, ?hze6⟩) hH ?rze6
      case hze6 => (intro W' hSw; (try dsimp only at hSw); go_simp; try with_reducible rfl)
      walk_nrm
      refine wpAnyH_take (i := 7) (v := ?_) rfl (by kernel_rfl) (by kernel_rfl) (by kernel_rfl) (fun _ _ _ h => h) (Or.inl ⟨by rfl, ?hze7⟩) hH ?rze7
      case hze7 => (intro W' hSw; (try dsimp only at hSw); go_simp; try with_reducible rfl)
      walk_nrm
      refine wpAnyH_take (i := 8) (v := ?_) rfl (by kernel_rfl) (by kernel_rfl) (by kernel_rfl) (fun _ _ _ h => h) (Or.inl ⟨by rfl, ?hze8⟩) hH ?rze8
      case hze8 => (intro W' hSw; (try dsimp only at hSw); go_simp; try with_reducible rfl)
      walk_nrm
      refine wpAnyH_take (i := 11) (v := ?_) rfl (by kernel_rfl) (by kernel_rfl) (by kernel_rfl) (fun _ _ _ h => h) (Or.inl ⟨by rfl, ?hze11⟩) hH ?rze11
      case hze11 => (intro W' hSw; (try dsimp only at hSw); go_simp; try with_reducible rfl)
      walk_nrm
      refine wpAnyH_take (i := 12) (v := ?_) rfl (by kernel_rfl) (by kernel_rfl) (by kernel_rfl) (fun _ _ _ h => h) (Or.inl ⟨by rfl, ?hze12⟩) hH ?rze12
      case hze12 => (intro W' hSw; (try dsimp only at hSw); go_simp; try with_reducible rfl)
      walk_nrm
      refine wpAnyH_take (i := 13) (v := ?_) rfl (by kernel_rfl) (by kernel_rfl) (by kernel_rfl) (fun _ _ _ h => h) (Or.inl ⟨by rfl, ?hze13⟩) hH ?rze13
      case hze13 => (intro W' hSw; (try dsimp only at hSw); go_simp; try with_reducible rfl)
      walk_nrm
      refine wpAnyH_take (i := 14) (v := ?_) rfl (by kernel_rfl) (by kernel_rfl) (by kernel_rfl) (fun _ _ _ h => h) (Or.inl ⟨by rfl, ?hze14⟩) hH ?rze14
      case hze14 => (intro W' hSw; (try dsimp only at hSw); go_simp; try with_reducible rfl)
      walk_nrm
      refine wpAnyH_take (i := 15) (v := ?_) rfl (by kernel_rfl) (by kernel_rfl) (by kernel_rfl) (fun _ _ _ h => h) (Or.inl ⟨by rfl, ?hze15⟩) hH ?rze15
      case hze15 => (intro W' hSw; (try dsimp only at hSw); go_simp; try with_reducible rfl)
      walk_nrm
      refine wpAnyH_ready (rs := [9]) (by kernel_rfl) (by simp) ?_
      refine AllReadyH.cons rfl (fun K hK => ?_) AllReadyH.nil
      rw [if_pos (by rfl)]
      go_simp
      refine (dbytes_any db ep _ l _ _ Df).mono ?_
      rintro e w8 ⟨v8, rfl, own8, g8⟩
      have hc8 := kStr _ w8 v8 (own_sl own8)
      have D8 := Df.chg g8 (by simp)
      have P8 := Pf.chg g8 (by simp)
      have G8 := Gf.trans g8 (by simp)
      have hcu8 := kStr _ w8 _ P8.sl
      obtain ⟨t0, t1, lt, -, -⟩ := P8.cells
      clear g8 own8
      refine hK.out _ _ ⟨t0, t1, hcu8⟩ (fun hH => ?_)
      clear hK K
      walk_nrm
      refine wpAnyH_ready (rs := [10]) (by kernel_rfl) (by simp) ?_
      refine AllReadyH.cons rfl (fun K hK => ?_) AllReadyH.nil
      rw [if_pos (by rfl)]
      go_simp
      refine hK.out _ _ hH (fun hH => ?_)
      clear hK K
      walk_nrm
      refine wpAnyH_take (i := 16) (v := ?_) rfl (by kernel_rfl) (by kernel_rfl) (by kernel_rfl) (fun _ _ _ h => h) (Or.inl ⟨by rfl, ?hze16⟩) hH ?rze16
      case hze16 => (intro W' hSw; (try dsimp only at hSw); go_simp; try with_reducible rfl)
      walk_nrm
      refine wpAnyH_take (i := 17) (v := ?_) rfl (by kernel_rfl) (by kernel_rfl) (by kernel_rfl) (fun _ _ _ h => h) (Or.inl ⟨by rfl, ?hze17⟩) hH ?rze17
      case hze17 => (intro W' hSw; (try dsimp only at hSw); go_simp; try with_reducible rfl)
      walk_nrm
      refine wpAnyH_done (by kernel_rfl) ?_ _
      refine NoPanic.normal ?_
      clear hH hcu hcu8 hc8 t0 t1 lt y0 y1 ly
      go_wp2
      go_roundw
      case rel => exact ⟨k + 1, ep, _, _, l, by omega, by go_num, e0, e1, D8, P8, A7, B7, G8⟩
      case measure => go_light; simp [intOf]; omega
    · have hkn : ¬ (k : Int) < (n1 : Int) := by omega
      go_wp2
      go_ret
      exact ⟨rfl, G⟩

end Go.Proofs.Ytkkffgojblopjaa
