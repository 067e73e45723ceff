/- For all steps the law StoryTells returns true, and leaves them as they were; no condition. -/
import Derived.BigQuiet
import Derived.Test.YtjoibdmppmpjgacMgGA
import Derived.Test.YtjoibdmppmpjgacMgS2
import Derived.Test.YtjoibdmppmpjgacMgBegun
import Derived.Test.YtjoibdmppmpjgacMgKF0
namespace Go.Proofs.Ytjoibdmppmpjgac
open Go.RowKit

set_option maxRecDepth 100000 in
set_option maxHeartbeats 8000000 in
theorem stells_any (a : Option Addr) (len cap : Nat) (fs : Nat → Sp) (W : World) (h : Sps W a len fs) :
    Calls Try.prog 4 #[.slice a len cap] W fun e w' => e = .returned (.bool true) ∧ Chg [] W w' := by
  have HH := hide h
  clear h
  by_cases hbig : 300 < len
  · have d1 : decide ((300 : Int) < (len : Int)) = true := by simp; omega
    go_enter Try.func4, Try.ntmps4
    go_wp2_with (go_at_call 7; refine (sbegun_any _).mono ?_; rintro e w1 ⟨rfl, G1⟩)
    go_ret
    exact ⟨rfl, G1⟩
  have d1 : decide ((300 : Int) < (len : Int)) = false := by simp; omega
  go_enter Try.func4, Try.ntmps4
  go_wp2_with (first
    | (go_at_call 7; refine (sbegun_any _).mono ?_; rintro e w1 ⟨rfl, G1⟩)
    | (go_at_call 18; refine (gnew_any _).mono ?_; rintro e w2 ⟨m0, rfl, C0⟩))
  obtain ⟨gb, hgb0⟩ : ∃ gb, m0.gb = gb := ⟨_, rfl⟩
  rw [hgb0]
  have HC0 := hide C0
  clear C0
  go_loopw [4] (fun i wr => ∃ (k : Nat) (m : Gm) (s : Gd), k ≤ len ∧ i = .int .i64 k ∧ Gld w1 wr m s ∧ m.gb = gb) (fun i _ => len - (intOf i).toNat)
  case atStart =>
    exact ⟨0, m0, G0, by omega, rfl, unhide HC0, hgb0⟩
  case round =>
    obtain ⟨k, m, s, hkl, rfl, C, hgb⟩ := hrel
    clear HC0 hgb0
    by_cases hlt : k < len
    · have hki : (k : Int) < (len : Int) := by omega
      have hk0 : (0 : Int) ≤ (k : Int) := by omega
      rcases unhide HH with h0 | ⟨bl, off, rfl, hbl, hO⟩
      · omega
      have GW := G1.trans C.ch (by simp)
      obtain ⟨p0, p1, p2, p3, p4, p5, p6, p7, p8⟩ := (hO k hlt).chg GW hbl
      have lbl := Nat.lt_of_lt_of_le hbl GW.size
      clear hO
      have HC := hide C
      clear C
      go_wp2_with (go_at_call 19; refine (gstep_at w1 m s (fs k) gb _ (unhide HC) hgb).mono ?_; rintro e w3 ⟨rfl, m3, X3⟩)
      go_roundw
      case rel => exact ⟨k + 1, m3, _, by omega, by go_num, X3.g, X3.gb.trans hgb⟩
      case measure => go_light; simp [intOf]; omega
    · have hki : ¬ (k : Int) < (len : Int) := by omega
      obtain ⟨rs, t, PL⟩ := C.pl
      have HPL := hide PL
      have HR := hide PL.recs
      have hlen := PL.len
      obtain ⟨cd, lg⟩ := C.disk hgb
      have HK := hide C.dsk.ok
      have few := C.dsk.few
      have HC := hide C
      have GW : Chg [] W wr := G1.trans C.ch (by simp)
      clear C PL
      obtain ⟨n, hn⟩ : ∃ n, n = rs.length := ⟨_, rfl⟩
      rw [← hn] at hlen
      have HN := hide hn
      have hn1 : n ≤ 1500 := by have h7 : s.d.l.length ≤ 1500 := few; omega
      clear hn hlen
      go_wp2_with fail
      refine (dbytes_any m.db s.d.ep m.v s.d.l _ _ (unhide HC).dsk).mono ?_
      rintro e w5 ⟨v5, rfl, own5, g5⟩
      obtain ⟨a5, c5, rfl, hc5, hB5⟩ := sl_byt (own_sl own5) (unhide HK)
      have HC5 := hide ((unhide HC).keep g5 (by simp))
      clear own5 cd lg
      go_wp2_with fail
      refine (of_any a5 s.d.l.length c5 (getB s.d.l) _ (by omega) hc5 hB5).mono ?_
      rintro e w6 ⟨v6, rfl, own6, g6⟩
      rw [recsL_all, unhide HR, ← unhide HN] at own6
      obtain ⟨a6, c6, rfl, hc6, E6⟩ := own_evs own6 (by rw [evs_len]; exact unhide HN)
      have HE6 := hide E6
      have HC6 := hide ((unhide HC5).keep g6 (by simp))
      have G6 : Chg [] W w6 := (GW.trans g5 (by simp)).trans g6 (by simp)
      clear own6 E6 g5 g6 HC5 hB5 hc5 GW
      have HACC := hide (unhide HPL).acc
      have HSRV := hide (unhide HPL).srv
      have hfld : ∀ (W : World) (a b c d : Value), (Instr.field 35 (.agg #[a, b, c, d]) 2).run Try.prog W = .ok c W := fun W a b c d => by kernel_rfl
      clear HPL HC
      obtain ⟨cd6, lg6⟩ := (unhide HC6).disk hgb
      go_wp2_with fail
      go_loop [6] (fun i => ∃ j : Nat, j ≤ n ∧ i = .int .i64 j) (fun i => n - (intOf i).toNat)
      case atStart => exact ⟨0, by omega, rfl⟩
      case round =>
        obtain ⟨j, hj, rfl⟩ := hrel
        by_cases hlt : j < n
        · have hji : (j : Int) < (n : Int) := by omega
          have hj0 : (0 : Int) ≤ (j : Int) := by omega
          rcases unhide HE6 with h0 | ⟨be, oe, rfl, hbe, hO⟩
          · omega
          have p7 : w6.cell? ⟨be, oe + j * 14 + 7, none⟩ = some (.int .i64 (atE (evs rs) j).a.code) := (hO j hlt).all.2.2.2.2.2.2.2.1
          have hz : (atE (evs rs) j).a.code = 0 := evs_acc (unhide HACC) _ (List.mem_of_getElem? (atE_some (by rw [evs_len, ← unhide HN]; exact hlt)))
          rw [hz] at p7
          clear hO hz
          go_wp2
          go_round
          case rel => exact ⟨j + 1, by omega, by go_num⟩
          case measure => simp [intOf]; omega
        · have hji : ¬ (j : Int) < (n : Int) := by omega
          clear hlt
          go_wp2_with fail
          refine (dbytes_any m.db s.d.ep m.v s.d.l _ _ (unhide HC6).dsk).mono ?_
          rintro e w7 ⟨v7, rfl, own7, g7⟩
          obtain ⟨a7, c7, rfl, hc7, hB7⟩ := sl_byt (own_sl own7) (unhide HK)
          clear own7
          go_wp2_with fail
          refine (table_yes a7 s.d.l.length c7 (getB s.d.l) n _ (by omega) hc7 hB7 (by rw [recsL_all, unhide HR, ← unhide HN]; exact Nat.le_refl _)).mono ?_
          rintro e w8 ⟨tb, rfl, T8, g8, zt8⟩
          rw [recsL_all, unhide HR, show rs.take n = rs by rw [unhide HN, List.take_length]] at T8
          have k8 := g7.trans g8 (by simp)
          have HC8 := hide ((unhide HC6).keep k8 (by simp))
          have HE8 := hide ((unhide HE6).chg k8)
          have G8 := G6.trans k8 (by simp)
          have HT8 := hide T8
          have lt8 := T8.lt
          clear T8 k8 g7 g8 hB7 hc7 HC6 HE6 G6 cd6 lg6 zt8
          go_wp2_with fail
          go_loopw [8] (fun i wr => ∃ j : Nat, j ≤ 3 ∧ i = .int .i64 j ∧ Chg [] w8 wr) (fun i _ => 3 - (intOf i).toNat)
          case atStart => exact ⟨0, by omega, rfl, Chg.refl _ _⟩
          case round =>
            obtain ⟨j, hj, rfl, hG⟩ := hrel
            by_cases hlt : j < 3
            · have hji : decide ((j : Int) < 3) = true := by simp; omega
              have C9 := (unhide HC8).keep hG (by simp)
              obtain ⟨cd9, lg9⟩ := C9.disk hgb
              have hnv : nodeV m s j = slotV (s.ns j) (m.nb j) := by unfold nodeV nodeG; rw [if_pos (by unfold inN; simp; omega)]; simp
              have HNV := hide hnv
              clear hnv
              cases hs : s.ns j with
              | none =>
                have HNO := hide hs
                have HC9 := hide C9
                clear C9 hs
                go_wp2_with (go_at_call 21; refine (gnode_at w1 m s j gb _ (unhide HC9) hgb).mono ?_; rintro e wr ⟨rfl, rfl⟩; rw [unhide HNV, unhide HNO]; unfold slotV)
                go_quiet (fail)
                go_wp2
                go_roundw
                case rel => exact ⟨j + 1, by omega, by go_num, hG.drewN _⟩
                case measure => go_light; simp [intOf]; omega
              | some nd =>
                obtain ⟨nT, ne, ndn⟩ := nd
                have N9 := C9.nod j _ hlt hs
                have HNO := hide hs
                have HN9 := hide N9
                have HD9 := hide C9.dsk
                have lN := N9.lt.1
                have t0 : wr.cell? ⟨m.nb j, 0, none⟩ = some (.pointer (some ⟨m.tb j, 0, none⟩)) := N9.cells.1
                have HC9 := hide C9
                clear C9 hs N9
                cases ndn
                · by_cases he : ne = s.d.ep
                  · obtain ⟨-, hTT⟩ := unhide HSRV j _ hlt (unhide HNO) he rfl
                    subst he
                    dsimp only at hTT
                    have HTT := hide hTT
                    have Tn := (unhide HN9).2
                    have HTn := hide (hTT ▸ Tn)
                    clear hTT Tn
                    go_wp2_with (go_at_call 21; refine (gnode_at w1 m s j gb _ (unhide HC9) hgb).mono ?_; rintro e wr ⟨rfl, rfl⟩; rw [unhide HNV, unhide HNO]; unfold slotV)
                    go_quiet ((first | (go_at_call 22; exact Calls.quiet_of_same (ndown_any (m.nb j) (m.tb j) m.db _ _ ⟨(unhide HN9).1, (unhide HN9).2⟩)) | (go_at_call 23; exact Calls.quiet_of_same (nepoch_any (m.nb j) (m.tb j) m.db _ _ ⟨(unhide HN9).1, (unhide HN9).2⟩)) | (go_at_call 24; exact Calls.quiet_of_same (depoch_any m.db s.d.ep m.v s.d.l w1.heap.size _ ((unhide HD9).chg ((Chg.refl [] _).drewN _) (by simp))))))
                    go_wp2_with fail
                    go_loopw [10] (fun i wr' => ∃ q : Nat, q ≤ 6 ∧ i = .int .i64 q ∧ Chg [] wr wr') (fun i _ => 6 - (intOf i).toNat)
                    case atStart => exact ⟨0, by omega, rfl, (Chg.refl _ _).drewN _⟩
                    case round =>
                      obtain ⟨q, hq, rfl, hG2⟩ := hrel
                      by_cases hq6 : q < 6
                      · have hqi : decide ((q : Int) < 6) = true := by simp; omega
                        have t0' := (hG2.cell' (p := ⟨m.nb j, 0, none⟩) lN (by simp)).trans t0
                        have lN' := Nat.lt_of_lt_of_le lN hG2.size
                        have tok : True := trivial
                        go_wp2_with (first
                          | (go_at_call 25; have _t := tok; clear tok _t; refine (job_all (m.tb j) q _ _ ((unhide HTn).chg hG2 (by simp))).mono ?_; rintro e w16 ⟨rfl, g16⟩; have G16 := hG2.trans g16 (by simp); clear g16)
                          | (go_at_call 25; refine (job_all tb q _ _ ((unhide HT8).chg (hG.trans G16 (by simp)) (by simp))).mono ?_; rintro e w17 ⟨rfl, g17⟩; have G17 := G16.trans g17 (by simp); clear g17))
                        go_roundw
                        case rel => exact ⟨q + 1, by omega, by go_num, G17⟩
                        case measure => go_light; simp [intOf]; omega
                      · have hqi : decide ((q : Int) < 6) = false := by simp; omega
                        go_wp2
                        go_roundw
                        case rel => exact ⟨j + 1, by omega, by go_num, hG.trans hG2 (by simp)⟩
                        case measure => go_light; simp [intOf]; omega
                  · have heb : (ne == s.d.ep) = false := by simpa using he
                    clear he
                    go_wp2_with (go_at_call 21; refine (gnode_at w1 m s j gb _ (unhide HC9) hgb).mono ?_; rintro e wr ⟨rfl, rfl⟩; rw [unhide HNV, unhide HNO]; unfold slotV)
                    go_quiet ((first | (go_at_call 22; exact Calls.quiet_of_same (ndown_any (m.nb j) (m.tb j) m.db _ _ ⟨(unhide HN9).1, (unhide HN9).2⟩)) | (go_at_call 23; exact Calls.quiet_of_same (nepoch_any (m.nb j) (m.tb j) m.db _ _ ⟨(unhide HN9).1, (unhide HN9).2⟩)) | (go_at_call 24; exact Calls.quiet_of_same (depoch_any m.db s.d.ep m.v s.d.l w1.heap.size _ ((unhide HD9).chg ((Chg.refl [] _).drewN _) (by simp))))))
                    go_wp2
                    go_roundw
                    case rel => exact ⟨j + 1, by omega, by go_num, hG.drewN _⟩
                    case measure => go_light; simp [intOf]; omega
                · go_wp2_with (go_at_call 21; refine (gnode_at w1 m s j gb _ (unhide HC9) hgb).mono ?_; rintro e wr ⟨rfl, rfl⟩; rw [unhide HNV, unhide HNO]; unfold slotV)
                  go_quiet ((first | (go_at_call 22; exact Calls.quiet_of_same (ndown_any (m.nb j) (m.tb j) m.db _ _ ⟨(unhide HN9).1, (unhide HN9).2⟩)) | (go_at_call 23; exact Calls.quiet_of_same (nepoch_any (m.nb j) (m.tb j) m.db _ _ ⟨(unhide HN9).1, (unhide HN9).2⟩)) | (go_at_call 24; exact Calls.quiet_of_same (depoch_any m.db s.d.ep m.v s.d.l w1.heap.size _ ((unhide HD9).chg ((Chg.refl [] _).drewN _) (by simp))))))
                  go_wp2
                  go_roundw
                  case rel => exact ⟨j + 1, by omega, by go_num, hG.drewN _⟩
                  case measure => go_light; simp [intOf]; omega
            · have hji : decide ((j : Int) < 3) = false := by simp; omega
              have HE9 := hide ((unhide HE8).chg hG)
              have HT9 := hide ((unhide HT8).chg hG (by simp))
              have G9 := G8.trans hG (by simp)
              clear HE8 HT8 G8 hG HC8
              go_wp2_with fail
              go_loopw [11] (fun i w' => ∃ j : Nat, j ≤ 6 ∧ i = .int .i64 j ∧ Chg [] wr w') (fun i _ => 6 - (intOf i).toNat)
              case atStart => exact ⟨0, by omega, rfl, Chg.refl _ _⟩
              case round =>
                obtain ⟨q, hq, rfl, hG2⟩ := hrel
                by_cases hq6 : q < 6
                · have hqi : decide ((q : Int) < 6) = true := by simp; omega
                  obtain ⟨hl1, hl2⟩ := hold_tries (unhide HACC) q hq6
                  have HL1 := hide hl1
                  have HL2 := hide hl2
                  have hpl : (holdL (evs rs) q).length ≤ n := by rw [unhide HN, ← evs_len]; exact holdL_len _ _
                  clear hl1 hl2
                  go_wp2_with fail
                  refine (holders_any a6 n c6 (evs rs) q _ (by rw [evs_len]; exact (unhide HN).symm) (by omega) ((unhide HE9).chg hG2)).mono ?_
                  rintro e w10 ⟨v10, rfl, own10, g10⟩
                  obtain ⟨h, hh⟩ : ∃ h, h = (holdL (evs rs) q).length := ⟨_, rfl⟩
                  rw [← hh] at own10 hpl
                  have HH10 := hide hh
                  clear hh
                  obtain ⟨a10, c10, rfl, hc10, P10⟩ := own_prs own10 (unhide HH10)
                  have HP10 := hide P10
                  have G10 := hG2.trans g10 (by simp)
                  have HT10 := hide ((unhide HT9).chg G10 (by simp))
                  clear own10 P10 g10
                  go_wp2_with fail
                  go_loop [13] (fun i => ∃ p : Nat, p ≤ h ∧ i = .int .i64 p) (fun i => h - (intOf i).toNat)
                  case atStart => exact ⟨0, by omega, rfl⟩
                  case round =>
                    obtain ⟨p, hp, rfl⟩ := hrel
                    by_cases hlp : p < h
                    · have hpi : (p : Int) < (h : Int) := by omega
                      have hp0 : (0 : Int) ≤ (p : Int) := by omega
                      rcases unhide HP10 with h0 | ⟨bp, rfl, hbp, hO⟩
                      · omega
                      obtain ⟨pr, hpr⟩ : ∃ pr, (holdL (evs rs) q)[p]? = some pr := ⟨_, List.getElem?_eq_getElem (by rw [← unhide HH10]; exact hlp)⟩
                      have x1 := (hO p pr hpr).2
                      have hx := unhide HL2 p pr hpr
                      rw [hx] at x1
                      clear hO hpr hx
                      go_wp2
                      go_round
                      case rel => exact ⟨p + 1, by omega, by go_num⟩
                      case measure => simp [intOf]; omega
                    · have hpi : ¬ (p : Int) < (h : Int) := by omega
                      have hjt : (jobA (behindT rs) q).tr = (h : Int) := by
                        have e1 : jobA (behindT rs) q = (behindT rs).js q := by unfold jobA; rw [if_pos (by omega)]; simp
                        rw [e1, ← unhide HL1, unhide HH10]
                      have HJT := hide hjt
                      clear hjt hlp
                      go_wp2_with (go_at_call 25; refine (job_all tb q _ _ (unhide HT10)).mono ?_; rintro e w11 ⟨rfl, g11⟩; rw [unhide HJT]; have G11 := G10.trans g11 (by simp); clear g11)
                      go_roundw
                      case rel => exact ⟨q + 1, by omega, by go_num, G11⟩
                      case measure => go_light; simp [intOf]; omega
                · have hqi : decide ((q : Int) < 6) = false := by simp; omega
                  go_wp2
                  go_ret
                  exact ⟨rfl, G9.trans hG2 (by simp)⟩
end Go.Proofs.Ytjoibdmppmpjgac

namespace Go.Proofs.Ytjoibdmppmpjgac
open Go.ChangeShapes Go.WideShapes Go.ChangeAt Go.RowKit

set_option maxRecDepth 100000 in
theorem stells_lifted (os : Os) (started : os.Started) (H : Type) (enc : TypeId × Value → H) :
    ReturnsInHanded {} Try.checked os 4 .any (Rows.storyTellsSpec.pre6 enc Try.prog Try.f4 Rows.storyTellsRow.domain false) (Rows.storyTellsSpec.post enc Try.prog Try.f4 false true false false) := by
  refine returnsInHanded_of_change (C := Try.checked) ownK started (by kernel_rfl) Try.func4
    (ChangeSpec.witness6 (enc := enc) (C := Try.checked) false ⟨#[], #[.slice none 0 0], []⟩ 8 (by kernel_rfl) (by kernel_rfl) (by kernel_rfl) (by kernel_rfl)) ?_
  intro W base args ds gs before hval0 hW hcnd _
  have hval : ∀ (j : Nat) t v, Try.f4.params[j]? = some t → args[j]? = some v → Value.okWide Try.prog W .any base t v := hval0
  have hW' := hW
  obtain ⟨p, q, hA0, hV, rfl, hfz, hnd⟩ := hW
  have hA : DataW.TrodAll enc Try.prog W 0 (fun _ => true) true Try.f4.params.toList args.toList ds p := hA0
  rw [Try.params4] at hA hval
  obtain ⟨v0, vs0, d0, ds0, p0, q0, hargs, rfl, rfl, h0, r0⟩ := trodAll_cons hA
  obtain ⟨rfl, rfl, rfl⟩ := trodAll_nil r0
  obtain rfl : args = #[v0] := by cases args; simp_all
  obtain ⟨rfl, rfl⟩ := trodVars_none hV
  obtain ⟨a0, len0, cap0, rfl⟩ := okWide_slice Try.underlying54 (hval 0 54 v0 rfl rfl)
  have k0 := h0
  have lt0 : ∀ x ∈ p0, x.block < W.heap.size := by obtain ⟨m, hm⟩ := k0; exact DataW.trod_lt m _ _ _ hm
  obtain ⟨z0, w0⟩ : ∃ fs, Sps W a0 len0 fs := by
    obtain ⟨fuel, hf⟩ := h0
    exact sps_of_trod (by simpa [Value.cells] using hf)
  clear hA0 hval0
  refine (stells_any a0 len0 cap0 z0 W w0).mono fun e W' ⟨he, hch⟩ => ?_
  have bel := hch.below
  subst he
  exact ⟨_, rfl, _, _, _, [], _, [], hW', trodAll_mk1 (shut_bool Try.underlying4 _), (trodAll_cons_mk (Below.trod laidOutK (by kernel_rfl) (of_decide_eq_true (by kernel_rfl)) k0 bel lt0) trodAll_mk0), rfl, bel.frame _, fun h => by cases h⟩

theorem stells_holds : Rows.StoryTellsSaid :=
  OpenClaim.holds_of_wide 4 Try.f4 rfl rfl rfl rfl rfl rfl rfl ⟨rfl, rfl, rfl, rfl, rfl⟩ rfl rfl rfl rfl rfl (by kernel_rfl) Try.func4 (by kernel_rfl)
    (of_decide_eq_true (by kernel_rfl)) (by unfold Func.isWrapper; first | (rw [if_pos (by decide +kernel)]; kernel_rfl) | (rw [if_neg (by decide +kernel)]; exact ⟨rfl, rfl⟩))
    (fun os started H enc _ => stells_lifted os started H enc)

end Go.Proofs.Ytjoibdmppmpjgac

