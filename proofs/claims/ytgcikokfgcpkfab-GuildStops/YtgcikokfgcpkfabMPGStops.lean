/- For all steps, numbers and orders the law GuildStops returns true, and leaves them as they were; no condition. -/
import Derived.Test.YtgcikokfgcpkfabMGU
import Derived.Test.YtgcikokfgcpkfabMGFrame
namespace Go.Proofs.Ytgcikokfgcpkfab
open Go.RowKit

set_option maxRecDepth 100000 in
set_option maxHeartbeats 8000000 in
theorem gstops_any (a : Option Addr) (len cap : Nat) (fs : Nat → Sp) (n0 q0 : Int) (o : Od) (W : World) (h : Sps W a len fs) :
    Calls Try.prog 14 #[.slice a len cap, .int .i64 n0, .int .i64 q0, odV o] W fun e w' => e = .returned (.bool true) ∧ Chg [] W w' := by
  have HH := hide h
  clear h
  unfold odV
  by_cases hbig : 300 < len
  · have d1 : decide ((300 : Int) < (len : Int)) = true := by simp; omega
    go_enter Try.func14, Try.ntmps14
    go_wp2_with (go_at_call 40; refine (gbegun_any _).mono ?_; rintro e w1 ⟨rfl, G1⟩; have BO := (Blk.new W #[.int .i64 o.k, .int .i64 o.now, .int .i64 o.jb, .int .i64 o.tr, .int .i64 o.wk, .int .i64 o.tm] 43).chg G1 (by simp); replace G1 : Chg [] W w1 := ((Chg.refl [] W).alloc _).trans G1 (by simp))
    go_ret
    exact ⟨rfl, G1⟩
  have d1 : decide ((300 : Int) < (len : Int)) = false := by simp; omega
  go_enter Try.func14, Try.ntmps14
  go_wp2_with (first
    | (go_at_call 40; refine (gbegun_any _).mono ?_; rintro e w1 ⟨rfl, G1⟩; have BO := (Blk.new W #[.int .i64 o.k, .int .i64 o.now, .int .i64 o.jb, .int .i64 o.tr, .int .i64 o.wk, .int .i64 o.tm] 43).chg G1 (by simp); replace G1 : Chg [] W w1 := ((Chg.refl [] W).alloc _).trans G1 (by simp))
    | (go_at_call 41; refine (gnew_any _).mono ?_; rintro e w2 ⟨m0, rfl, C0⟩))
  obtain ⟨gb, hgb0⟩ : ∃ gb, m0.gb = gb := ⟨_, rfl⟩
  rw [hgb0]
  have HC0 := hide C0
  clear C0
  go_loopw [10] (fun i wr => ∃ (k : Nat) (m : Gm) (s : Gd), k ≤ len ∧ i = .int .i64 k ∧ Gld w1 wr m s ∧ m.gb = gb) (fun i _ => len - (intOf i).toNat)
  case atStart =>
    exact ⟨0, m0, G0, by omega, rfl, unhide HC0, hgb0⟩
  case round =>
    obtain ⟨k, m, s, hkl, rfl, C, hgb⟩ := hrel
    clear HC0 hgb0
    by_cases hlt : k < len
    · have hki : (k : Int) < (len : Int) := by omega
      have hk0 : (0 : Int) ≤ (k : Int) := by omega
      rcases unhide HH with h0 | ⟨bl, off, rfl, hbl, hO⟩
      · omega
      have GW := G1.trans C.ch (by simp)
      obtain ⟨p0, p1, p2, p3, p4, p5, p6, p7, p8⟩ := (hO k hlt).chg GW hbl
      have lbl := Nat.lt_of_lt_of_le hbl GW.size
      clear hO
      have HC := hide C
      clear C
      go_wp2_with (go_at_call 42; refine (gstep_at w1 m s (fs k) gb _ (unhide HC) hgb).mono ?_; rintro e w3 ⟨rfl, m3, X3⟩)
      go_roundw
      case rel => exact ⟨k + 1, m3, _, by omega, by go_num, X3.g, X3.gb.trans hgb⟩
      case measure => go_light; simp [intOf]; omega
    · have hki : ¬ (k : Int) < (len : Int) := by omega
      obtain ⟨i1, hi1, pick1⟩ := pick3 n0
      obtain ⟨i2, hi2, pick2⟩ := pick3 q0
      obtain ⟨rs, t, PL⟩ := C.pl
      have hfld : ∀ (W : World) (a b c : Int), (Instr.field 56 (.agg #[.int .i64 a, .int .i64 b, .int .i64 c]) 0).run Try.prog W = .ok (.int .i64 a) W := fun W a b c => by kernel_rfl
      have HC := hide C
      have HBO := hide BO
      clear C BO
      go_wp2_with fail
      clear pick1 pick2 hki
      by_cases he : s.d.ep = 100
      · have HST := hide (step1_full (s := s) hi1 he)
        have HEP := hide he
        clear he
        refine (gstep_at w1 m s ⟨1, i1, 0, od0⟩ gb _ (unhide HC) hgb).mono ?_
        rintro e w3 ⟨rfl, m3, X3⟩
        rw [unhide HST] at X3 ⊢
        obtain ⟨cd, lg⟩ := X3.g.disk (X3.gb.trans hgb)
        have HC3 := hide X3.g
        clear X3 HC
        unfold ansV
        go_wp2_with (go_at_call 20; refine (depoch_any m3.db _ _ _ _ _ (unhide HC3).dsk).mono ?_; rintro e w9 ⟨rfl, rfl⟩; dsimp only; rw [unhide HEP])
        go_ret
        exact ⟨rfl, G1.trans (unhide HC3).ch (by simp)⟩
      obtain ⟨s1, s2, s3, t1, t3, e1, P1, e4, e2, P3⟩ := stops_first PL hi1 he o
      have HE1 := hide e1
      have HE4 := hide e4
      have HE2 := hide e2
      have HR1 := hide P1.recs
      have HP3 := hide P3
      have HL := hide P1.len
      have hnr : rs.length ≤ 4000 ∨ 4000 < rs.length := by omega
      clear PL he e1 e4 e2 P1 P3
      refine (gstep_at w1 m s ⟨1, i1, 0, od0⟩ gb _ (unhide HC) hgb).mono ?_
      rintro e w3 ⟨rfl, m3, X3⟩
      rw [unhide HE1] at X3 ⊢
      have hgb3 := X3.gb.trans hgb
      obtain ⟨cd, lg⟩ := X3.g.disk hgb3
      have C3 := X3.g
      have HK3 := hide C3.dsk.ok
      have few3 := C3.dsk.few
      replace hnr : rs.length ≤ 1500 := by have := unhide HL; have h7 : s1.d.l.length ≤ 1500 := few3; omega
      have HC3 := hide C3
      clear X3 HC HE1 C3
      unfold ansV
      obtain ⟨n, hn⟩ : ∃ n, n = rs.length := ⟨_, rfl⟩
      have HN := hide hn
      rw [← hn] at hnr
      clear hn
      go_wp2_with fail
      refine (dbytes_any m3.db s1.d.ep m3.v s1.d.l _ _ (unhide HC3).dsk).mono ?_
      rintro e w5 ⟨v5, rfl, own5, g5⟩
      obtain ⟨a5, c5, rfl, hc5, hB5⟩ := sl_byt (own_sl own5) (unhide HK3)
      have C5 := (unhide HC3).fresh g5
      have HC5 := hide C5
      clear own5 g5 HC3 cd lg C5
      go_wp2_with fail
      refine (all_any a5 s1.d.l.length c5 (getB s1.d.l) _ (by omega) hc5 hB5).mono ?_
      rintro e w6 ⟨v6, rfl, own6, g6⟩
      rw [recsL_all, unhide HR1, ← unhide HN] at own6
      obtain ⟨a6, c6, rfl, hc6, -, -⟩ := own_recs own6 (unhide HN)
      have C6 := (unhide HC5).fresh g6
      have f6 : ∀ g, (Value.slice a6 n c6).ownBlock = some g → grw w5.heap.size (grw w3.heap.size m3.own (fun _ => 100)) (fun _ => 100) g = 100 := fun g hg => grw_new (own6.lt g hg).1
      obtain ⟨m6, hm6⟩ : ∃ m6 : Gm, m6 = ⟨m3.gb, m3.db, m3.v, m3.nb, m3.tb, grw w5.heap.size (grw w3.heap.size m3.own (fun _ => 100)) (fun _ => 100)⟩ := ⟨_, rfl⟩
      have C6' : Gld w1 w6 m6 s1 := by rw [hm6]; exact C6
      have f6' : ∀ g, (Value.slice a6 n c6).ownBlock = some g → m6.own g = 100 := by rw [hm6]; exact f6
      have hgb6 : m6.gb = gb := by rw [hm6]; exact hgb3
      have HC6 := hide C6'
      have HF6 := hide f6'
      have HO6 := hide own6
      clear C6 f6 C6' f6' hm6 own6 g6 HC5 hB5 hc5
      go_wp2_with fail
      refine (gstep_at w1 m6 s1 ⟨4, i1, 0, od0⟩ gb _ (unhide HC6) hgb6).mono ?_
      rintro e w7 ⟨rfl, m7, X7⟩
      rw [unhide HE4] at X7 ⊢
      obtain ⟨ow7, of7⟩ := X7.row (unhide HO6) (unhide HF6)
      have hgb7 := X7.gb.trans hgb6
      have HC7 := hide X7.g
      have HO7 := hide ow7
      have HF7 := hide of7
      have BO7 := (unhide HBO).chg X7.g.ch (by simp)
      obtain ⟨o0, o1, o2, o3, o4, o5⟩ : w7.cell? ⟨W.heap.size, 0, none⟩ = some (.int .i64 o.k) ∧ w7.cell? ⟨W.heap.size, 1, none⟩ = some (.int .i64 o.now) ∧ w7.cell? ⟨W.heap.size, 2, none⟩ = some (.int .i64 o.jb) ∧ w7.cell? ⟨W.heap.size, 3, none⟩ = some (.int .i64 o.tr) ∧ w7.cell? ⟨W.heap.size, 4, none⟩ = some (.int .i64 o.wk) ∧ w7.cell? ⟨W.heap.size, 5, none⟩ = some (.int .i64 o.tm) := ⟨BO7.cell 0, BO7.cell 1, BO7.cell 2, BO7.cell 3, BO7.cell 4, BO7.cell 5⟩
      have lo7 := BO7.lt
      clear X7 HC6 HO6 HF6 ow7 of7 BO7 HE4
      unfold ansV
      go_wp2_with fail
      refine (gstep_at w1 m7 s2 ⟨2, i1, 0, o⟩ gb _ (unhide HC7) hgb7).mono ?_
      rintro e w8 ⟨rfl, m8, X8⟩
      rw [unhide HE2] at X8 ⊢
      obtain ⟨ow8, of8⟩ := X8.row (unhide HO7) (unhide HF7)
      have hgb8 := X8.gb.trans hgb7
      have k8 := (Chg.refl [] w8).alloc (.cells #[.int .i64 10, .int .i64 0, .int .i64 0] 56)
      obtain ⟨m9, C9, hgb9, -, -, -, -, -, as9⟩ := X8.g.alien k8
      have HC9 := hide C9
      have HO9 := hide (own_keep ow8 k8 (by simp))
      have HF9 := hide (show ∀ g, (Value.slice a6 n c6).ownBlock = some g → m9.own g = 100 from fun g hg => as9 g (ow8.lt g hg).2 (of8 g hg))
      replace hgb9 : m9.gb = gb := hgb9.trans hgb8
      clear X8 HC7 HO7 HF7 ow8 of8 k8 C9 as9 HE2 o0 o1 o2 o3 o4 o5
      unfold ansV
      go_wp2_with fail
      by_cases he : s3.d.ep = 100
      · have HST := hide (step1_full (s := s3) hi2 he)
        have HEP := hide he
        clear he
        refine (gstep_at w1 m9 s3 ⟨1, i2, 0, od0⟩ gb _ (unhide HC9) hgb9).mono ?_
        rintro e w10 ⟨rfl, m10, X10⟩
        rw [unhide HST] at X10 ⊢
        obtain ⟨cd, lg⟩ := X10.g.disk (X10.gb.trans hgb9)
        have HC10 := hide X10.g
        clear X10 HC9
        unfold ansV
        go_wp2_with (go_at_call 20; refine (depoch_any m10.db _ _ _ _ _ (unhide HC10).dsk).mono ?_; rintro e w19 ⟨rfl, rfl⟩; dsimp only; rw [unhide HEP])
        go_ret
        exact ⟨rfl, G1.trans (unhide HC10).ch (by simp)⟩
      obtain ⟨s4, nd, t4, e4, P4, hns, hdn, hT⟩ := stops_last (unhide HP3) hi2 he
      have HE4 := hide e4
      have HR4 := hide P4.recs
      have HNS := hide hns
      clear he e4 P4
      refine (gstep_at w1 m9 s3 ⟨1, i2, 0, od0⟩ gb _ (unhide HC9) hgb9).mono ?_
      rintro e w10 ⟨rfl, m10, X10⟩
      rw [unhide HE4] at X10 ⊢
      obtain ⟨ow10, of10⟩ := X10.row (unhide HO9) (unhide HF9)
      have hgb10 := X10.gb.trans hgb9
      have C10 := X10.g
      have N10 := C10.nod i2 nd hi2 hns
      have hv : nodeV m10 s4 i2 = .pointer (some ⟨m10.nb i2, 0, none⟩) := by unfold nodeV; rw [nodeG_nat hi2, hns]; simp [slotV]
      have HV := hide hv
      obtain ⟨cd, lg⟩ := C10.disk hgb10
      have HK10 := hide C10.dsk.ok
      have few10 := C10.dsk.few
      have HC10 := hide C10
      have HN10 := hide N10
      have HO10 := hide ow10
      clear X10 HC9 HO9 HF9 ow10 of10 C10 N10 hv hns HE4
      unfold ansV
      go_wp2_with fail
      refine (gnode_at w1 m10 s4 i2 gb _ (unhide HC10) hgb10).mono ?_
      rintro e w10 ⟨rfl, rfl⟩
      rw [unhide HV]
      go_wp2_with fail
      refine (ndown_any (m10.nb i2) (m10.tb i2) m10.db nd _ (unhide HN10)).mono ?_
      rintro e w10 ⟨rfl, rfl⟩
      rw [hdn]
      go_wp2_with fail
      refine (dbytes_any m10.db s4.d.ep m10.v s4.d.l _ _ (unhide HC10).dsk).mono ?_
      rintro e w11 ⟨v11, rfl, own11, g11⟩
      obtain ⟨a11, c11, rfl, hc11, hB11⟩ := sl_byt (own_sl own11) (unhide HK10)
      have HC11 := hide ((unhide HC10).fresh g11)
      have HN11 := hide ((unhide HN10).chg g11 (by simp) (by simp))
      have HO11 := hide (own_keep (unhide HO10) g11 (by simp))
      clear own11 g11 HC10 HN10 HO10 cd lg HV HNS
      go_wp2_with fail
      refine (all_any a11 s4.d.l.length c11 (getB s4.d.l) _ (by omega) hc11 hB11).mono ?_
      rintro e w12 ⟨v12, rfl, own12, g12⟩
      rw [recsL_all, unhide HR4, ← unhide HN] at own12
      obtain ⟨a12, c12, rfl, hc12, -, R12⟩ := own_recs own12 (unhide HN)
      have HR12 := hide R12
      have HC12 := hide ((unhide HC11).fresh g12)
      have HN12 := hide ((unhide HN11).chg g12 (by simp) (by simp))
      have HO12 := hide (own_keep (unhide HO11) g12 (by simp))
      clear own12 g12 HC11 HN11 HO11 hB11 hc11 R12
      go_wp2_with fail
      refine (same_any a12 a6 n c12 c6 (atR rs) _ (by omega) (unhide HR12) (Recs.own (unhide HO12) (unhide HN))).mono ?_
      rintro e w13 ⟨rfl, dd, rfl⟩
      have N13 : Nod (w12.drewN dd) (m10.nb i2) (m10.tb i2) m10.db nd := (unhide HN12).chg ((Chg.refl [] w12).drewN dd) (by simp) (by simp)
      have R13 : Recs (w12.drewN dd) a6 n (atR rs) := (Recs.own (unhide HO12) (unhide HN)).chg ((Chg.refl [] w12).drewN dd)
      have G13 : Chg [] W (w12.drewN dd) := G1.trans ((unhide HC12).ch.trans ((Chg.refl [] w12).drewN dd) (by simp)) (by simp)
      have HR13 := hide R13
      have HN13 := hide N13
      clear HC12 HN12 HO12 HR12 R13 N13
      generalize hW13 : World.drewN w12 dd = w13 at *
      clear hW13
      go_wp2_with fail
      refine (behind_any a6 n c6 rs _ (unhide HN).symm (by omega) (unhide HR13)).mono ?_
      rintro e w14 ⟨rfl, B14, g14⟩
      have N14 := (unhide HN13).chg g14 (by simp) (by simp)
      have G14 := G13.trans g14 (by simp)
      rw [← hT] at B14
      have HB14 := hide B14
      have HN14 := hide N14
      clear g14 B14 N14 HN13 HR13 G13 hT
      go_wp2_with fail
      go_loopw [15] (fun i wr => ∃ j : Nat, j ≤ 6 ∧ i = .int .i64 j ∧ Nod wr (m10.nb i2) (m10.tb i2) m10.db nd ∧ Has 74 wr w13.heap.size nd.T ∧ Chg [] W wr) (fun i _ => 6 - (intOf i).toNat)
      case atStart => exact ⟨0, by omega, rfl, unhide HN14, unhide HB14, G14⟩
      case round =>
        clear HN14 HB14 G14
        obtain ⟨j, hj, rfl, M, B, G⟩ := hrel
        by_cases hj6 : j < 6
        · have hji : decide ((j : Int) < 6) = true := by simp; omega
          obtain ⟨m0, -, -, -, lm, -⟩ := M.cells
          go_wp2_with (first
            | (go_at_call 36; refine (job_all (m10.tb i2) j nd.T _ M.2).mono ?_; rintro e w16 ⟨rfl, g16⟩; have B16 := B.chg g16 (by simp); have M16 := M.chg g16 (by simp) (by simp); have G16 := G.trans g16 (by simp); clear g16)
            | (go_at_call 37; refine (bjob_all w13.heap.size j nd.T _ B16).mono ?_; rintro e w17 ⟨rfl, g17⟩; have B17 := B16.chg g17 (by simp); have M17 := M16.chg g17 (by simp) (by simp); have G17 := G16.trans g17 (by simp); clear g17))
          go_roundw
          case rel => exact ⟨j + 1, by omega, by go_num, M17, B17, G17⟩
          case measure => go_light; simp [intOf]; omega
        · have hji : decide ((j : Int) < 6) = false := by simp; omega
          go_wp2
          go_ret
          exact ⟨rfl, G⟩
end Go.Proofs.Ytgcikokfgcpkfab

namespace Go.Proofs.Ytgcikokfgcpkfab
open Go.ChangeShapes Go.WideShapes Go.ChangeAt Go.RowKit

set_option maxRecDepth 100000 in
theorem gstops_lifted (os : Os) (started : os.Started) (H : Type) (enc : TypeId × Value → H) :
    ReturnsInHanded {} Try.checked os 14 .any (Rows.guildStopsSpec.pre6 enc Try.prog Try.f14 Rows.guildStopsRow.domain false) (Rows.guildStopsSpec.post enc Try.prog Try.f14 false true false false) := by
  refine returnsInHanded_of_change (C := Try.checked) ownK started (by kernel_rfl) Try.func14
    (ChangeSpec.witness6 (enc := enc) (C := Try.checked) false ⟨#[], #[.slice none 0 0, .int .i64 0, .int .i64 0, .agg #[.int .i64 0, .int .i64 0, .int .i64 0, .int .i64 0, .int .i64 0, .int .i64 0]], []⟩ 8 (by kernel_rfl) (by kernel_rfl) (by kernel_rfl) (by kernel_rfl)) ?_
  intro W base args ds gs before hval0 hW hcnd _
  have hval : ∀ (j : Nat) t v, Try.f14.params[j]? = some t → args[j]? = some v → Value.okWide Try.prog W .any base t v := hval0
  have hW' := hW
  obtain ⟨p, q, hA0, hV, rfl, hfz, hnd⟩ := hW
  have hA : DataW.TrodAll enc Try.prog W 0 (fun _ => true) true Try.f14.params.toList args.toList ds p := hA0
  rw [Try.params14] at hA hval
  obtain ⟨v0, vs0, d0, ds0, p0, q0, hargs, rfl, rfl, h0, r0⟩ := trodAll_cons hA
  obtain ⟨v1, vs1, d1, ds1, p1, q1, rfl, rfl, rfl, h1, r1⟩ := trodAll_cons r0
  obtain ⟨v2, vs2, d2, ds2, p2, q2, rfl, rfl, rfl, h2, r2⟩ := trodAll_cons r1
  obtain ⟨v3, vs3, d3, ds3, p3, q3, rfl, rfl, rfl, h3, r3⟩ := trodAll_cons r2
  obtain ⟨rfl, rfl, rfl⟩ := trodAll_nil r3
  obtain rfl : args = #[v0, v1, v2, v3] := by cases args; simp_all
  obtain ⟨rfl, rfl⟩ := trodVars_none hV
  obtain ⟨a0, len0, cap0, rfl⟩ := okWide_slice Try.underlying78 (hval 0 78 v0 rfl rfl)
  have k0 := h0
  have lt0 : ∀ x ∈ p0, x.block < W.heap.size := by obtain ⟨m, hm⟩ := k0; exact DataW.trod_lt m _ _ _ hm
  obtain ⟨z0, w0⟩ : ∃ fs, Sps W a0 len0 fs := by
    obtain ⟨fuel, hf⟩ := h0
    exact sps_of_trod (by simpa [Value.cells] using hf)
  obtain ⟨a1, rfl, rfl, rfl, w1⟩ := open_int Try.underlying3 (hval 1 3 v1 rfl rfl) h1
  obtain ⟨a2, rfl, rfl, rfl, w2⟩ := open_int Try.underlying3 (hval 2 3 v2 rfl rfl) h2
  have k3 := h3
  have lt3 : ∀ x ∈ p3, x.block < W.heap.size := by obtain ⟨m, hm⟩ := k3; exact DataW.trod_lt m _ _ _ hm
  obtain ⟨a3, rfl⟩ := open_ordG (hval 3 43 v3 rfl rfl) h3
  clear hA0 hval0
  refine (gstops_any a0 len0 cap0 z0 a1 a2 a3 W w0).mono fun e W' ⟨he, hch⟩ => ?_
  have bel := hch.below
  subst he
  exact ⟨_, rfl, _, _, _, [], _, [], hW', trodAll_mk1 (shut_bool Try.underlying4 _), (trodAll_cons_mk (Below.trod laidOutK (by kernel_rfl) (of_decide_eq_true (by kernel_rfl)) k0 bel lt0) (trodAll_cons_mk (shut_int Try.underlying3 w1) (trodAll_cons_mk (shut_int Try.underlying3 w2) (trodAll_cons_mk (Below.trod laidOutK (by kernel_rfl) (of_decide_eq_true (by kernel_rfl)) k3 bel lt3) trodAll_mk0)))), rfl, bel.frame _, fun h => by cases h⟩

theorem gstops_holds : Rows.GuildStopsSaid :=
  OpenClaim.holds_of_wide 14 Try.f14 rfl rfl rfl rfl rfl rfl rfl ⟨rfl, rfl, rfl, rfl, rfl⟩ rfl rfl rfl rfl rfl (by kernel_rfl) Try.func14 (by kernel_rfl)
    (of_decide_eq_true (by kernel_rfl)) (by unfold Func.isWrapper; first | (rw [if_pos (by decide +kernel)]; kernel_rfl) | (rw [if_neg (by decide +kernel)]; exact ⟨rfl, rfl⟩))
    (fun os started H enc _ => gstops_lifted os started H enc)

end Go.Proofs.Ytgcikokfgcpkfab

