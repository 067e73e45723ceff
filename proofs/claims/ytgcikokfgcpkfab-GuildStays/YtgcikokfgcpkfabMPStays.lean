/- For all steps the law GuildStays returns true, and leaves them as they were; no condition. -/
import Derived.Test.YtgcikokfgcpkfabMgG4
import Derived.Test.YtgcikokfgcpkfabMGFrame
namespace Go.Proofs.Ytgcikokfgcpkfab
open Go.RowKit

set_option maxRecDepth 100000 in
set_option maxHeartbeats 8000000 in
theorem gstays_any (a : Option Addr) (len cap : Nat) (fs : Nat → Sp) (W : World) (h : Sps W a len fs) :
    Calls Try.prog 12 #[.slice a len cap] W fun e w' => e = .returned (.bool true) ∧ Chg [] W w' := by
  have HH := hide h
  clear h
  by_cases hbig : 300 < len
  · have d1 : decide ((300 : Int) < (len : Int)) = true := by simp; omega
    go_enter Try.func12, Try.ntmps12
    go_wp2_with (go_at_call 40; refine (gbegun_any _).mono ?_; rintro e w1 ⟨rfl, G1⟩)
    go_ret
    exact ⟨rfl, G1⟩
  have d1 : decide ((300 : Int) < (len : Int)) = false := by simp; omega
  go_enter Try.func12, Try.ntmps12
  go_wp2_with (first
    | (go_at_call 40; refine (gbegun_any _).mono ?_; rintro e w1 ⟨rfl, G1⟩)
    | (go_at_call 41; refine (gnew_any _).mono ?_; rintro e w2 ⟨m0, rfl, C0⟩))
  obtain ⟨gb, hgb0⟩ : ∃ gb, m0.gb = gb := ⟨_, rfl⟩
  rw [hgb0]
  have HC0 := hide C0
  clear C0
  go_loopw [4, 5] (fun was i wr => ∃ (k : Nat) (m : Gm) (s : Gd), k ≤ len ∧ i = .int .i64 k ∧ Gld w1 wr m s ∧ m.gb = gb ∧ Hid (wr.ownsRow w1.heap.size 76 7 was (recsL s.d.l).length (cellsR (recsL s.d.l))) ∧ Hid (∀ g, was.ownBlock = some g → m.own g = 100)) (fun _ i _ => len - (intOf i).toNat)
  case atStart =>
    refine ⟨0, m0, G0, by omega, rfl, unhide HC0, hgb0, hide ?_, hide (by simp [Value.ownBlock])⟩
    rw [plG_0.recs]
    exact World.ownsRow_nil _ _ _ _
  case round =>
    obtain ⟨k, m, s, hkl, rfl, C, hgb, HW, HF⟩ := hrel
    clear HC0 hgb0
    by_cases hlt : k < len
    · have hki : (k : Int) < (len : Int) := by omega
      have hk0 : (0 : Int) ≤ (k : Int) := by omega
      rcases unhide HH with h0 | ⟨bl, off, rfl, hbl, hO⟩
      · omega
      have GW := G1.trans C.ch (by simp)
      obtain ⟨p0, p1, p2, p3, p4, p5, p6, p7, p8⟩ := (hO k hlt).chg GW hbl
      have lbl := Nat.lt_of_lt_of_le hbl GW.size
      clear hO
      obtain ⟨rs, t, PL⟩ := C.pl
      obtain ⟨rs', t', PL', TL⟩ := PL.step (fs k)
      have er := PL.recs
      have er' := PL'.recs
      have len' := PL'.len
      have tl' := PL'.tl
      obtain ⟨q, eq, -⟩ := TL.more
      have hle : rs.length ≤ rs'.length := by rw [eq]; simp
      have HQ : Hid (∀ i, i < rs.length → atR rs' i = atR rs i) := hide (fun i hi => by rw [eq]; exact atR_app hi)
      rw [er] at HW
      clear PL PL' TL eq er q
      have HC := hide C
      clear C
      generalize hst : stepG s (fs k) = st at *
      have HS := hide hst
      obtain ⟨n, hn⟩ : ∃ n, n = rs.length := ⟨_, rfl⟩
      obtain ⟨n', hn'⟩ : ∃ n', n' = rs'.length := ⟨_, rfl⟩
      rw [← hn] at hle HQ
      rw [← hn'] at hle len'
      have HN := hide hn
      have HN' := hide hn'
      have HE' := hide er'
      obtain ⟨aw, cw, rfl, hcw, haw, RW⟩ := own_recs (unhide HW) rfl
      have HRW := hide RW
      rw [← hn] at hcw haw HW HRW HF ⊢
      have HL := hide len'
      clear hst hn hn' er' RW len'
      go_wp2_with (first
        | (go_at_call 42; refine (gstep_at w1 m s (fs k) gb _ (unhide HC) hgb).mono ?_; rintro e w3 ⟨rfl, m3, X3⟩; rw [unhide HS] at X3 ⊢; obtain ⟨ow3, of3⟩ := X3.row (unhide HW) (unhide HF); have hgb3 := X3.gb.trans hgb; obtain ⟨cd3, lg3⟩ := X3.g.disk hgb3; have C3 := X3.g; have HC3 := hide C3; have HW3 := hide ow3; have HF3 := hide of3; have HK3 := hide C3.dsk.ok; have few3 := C3.dsk.few; have z13 := C3.ch.size; clear HW HF HC HRW X3 C3 ow3 of3; unfold ansV)
        | (go_at_call 22; refine (dbytes_any m3.db st.1.d.ep m3.v st.1.d.l _ _ (unhide HC3).dsk).mono ?_; rintro e w5 ⟨v5, rfl, own5, g5⟩; obtain ⟨a5, c5, rfl, hc5, hB5⟩ := sl_byt (own_sl own5) (unhide HK3); have HW5 := hide (own_keep (unhide HW3) g5 (by simp)); have HC5 := hide ((unhide HC3).fresh g5); have z5 := g5.size; have HF5 : Hid (∀ g, (Value.slice aw n cw).ownBlock = some g → grw w3.heap.size m3.own (fun _ => 100) g = 100) := hide (fun g hg => by rw [grw_old ((unhide HW3).lt g hg).2]; exact unhide HF3 g hg); clear own5 g5 HC3 HW3 HF3 cd3 lg3)
        | (go_at_call 33; refine (all_any a5 st.1.d.l.length c5 (getB st.1.d.l) _ (by omega) hc5 hB5).mono ?_; rintro e w6 ⟨v6, rfl, own6, g6⟩; rw [recsL_all, unhide HE', ← unhide HN'] at own6; obtain ⟨a6, c6, rfl, hc6, ha6, R6⟩ := own_recs own6 (unhide HN'); have HR6 := hide R6; have HO6 := hide own6; have HW6 := hide (own_keep (unhide HW5) g6 (by simp)); have HC6 := hide ((unhide HC5).fresh g6); have z6 := g6.size; have HF6 : Hid (∀ g, (Value.slice a6 n' c6).ownBlock = some g → grw w5.heap.size (grw w3.heap.size m3.own (fun _ => 100)) (fun _ => 100) g = 100) := hide (fun g hg => grw_new (own6.lt g hg).1); clear own6 g6 R6 HC5 HW5 HF5 hB5 hc5))
      have hL := unhide HL
      have d2 : decide ((n' : Int) < (n : Int)) = false := by simp; omega
      have d3 : decide ((9 : Int) ≤ (st.1.d.l.length : Int) - 9 * (n' : Int)) = false := by simp; omega
      have d4 : decide ((1500 : Int) < (st.1.d.l.length : Int)) = false := by simp; omega
      have b1 : (n' : Int) ≤ 1500 := by omega
      have b2 : (n : Int) ≤ (n' : Int) := by omega
      have b3 : (n : Int) ≤ (c6 : Int) := by omega
      have b4 : (0 : Int) ≤ (n : Int) := by omega
      have RA := (unhide HR6).le (m := n) (by omega)
      have RB := own_recs (unhide HW6) (unhide HN)
      obtain ⟨aw', cw', ew, -, -, RW⟩ := RB
      cases ew
      have HRA := hide (RA.congr' (unhide HQ))
      have HRW := hide RW
      clear RA RW hL
      have TAIL : ∀ (av : Option Addr), Hid (Recs w6 av n (atR rs)) → Calls Try.prog 34 #[.slice av n c6, .slice aw n cw] w6 fun e w' => e = .returned (.bool true) ∧ ∃ d, w' = w6.drewN d := fun av h => same_any av aw n c6 cw (atR rs) w6 (by omega) (unhide h) (unhide HRW)
      have FIN : ∀ d, Gld w1 (w6.drewN d) _ st.1 := fun d => (unhide HC6).keep ((Chg.refl [] w6).drewN d) (by simp)
      have HFIN := hide FIN
      have zz := (unhide HC6).ch.size
      clear FIN
      rcases a6 with _ | a6
      · obtain ⟨rfl, rfl⟩ := ha6 rfl
        obtain rfl : n = 0 := by omega
        have d5 : decide ((9 : Int) ≤ (st.1.d.l.length : Int)) = false := by have := unhide HL; simp; omega
        go_wp2_with (go_at_call 34; refine (TAIL none HRA).mono ?_; rintro e w7 ⟨rfl, d, rfl⟩)
        go_roundw
        case rel => exact ⟨k + 1, _, _, by omega, by go_num, unhide HFIN d, hgb3, hide (by rw [unhide HE', ← unhide HN']; exact own_base (own_keep (unhide HO6) ((Chg.refl [] w6).drewN d) (by simp)) (by omega)), HF6⟩
        case measure => go_light; simp [intOf]; omega
      · go_wp2_with (go_at_call 34; refine (TAIL (some a6) HRA).mono ?_; rintro e w7 ⟨rfl, d, rfl⟩)
        go_roundw
        case rel => exact ⟨k + 1, _, _, by omega, by go_num, unhide HFIN d, hgb3, hide (by rw [unhide HE', ← unhide HN']; exact own_base (own_keep (unhide HO6) ((Chg.refl [] w6).drewN d) (by simp)) (by omega)), HF6⟩
        case measure => go_light; simp [intOf]; omega
    · have hki : ¬ (k : Int) < (len : Int) := by omega
      go_wp2
      go_ret
      exact ⟨rfl, G1.trans C.ch (by simp)⟩
end Go.Proofs.Ytgcikokfgcpkfab

namespace Go.Proofs.Ytgcikokfgcpkfab
open Go.ChangeShapes Go.WideShapes Go.ChangeAt Go.RowKit

set_option maxRecDepth 100000 in
theorem gstays_lifted (os : Os) (started : os.Started) (H : Type) (enc : TypeId × Value → H) :
    ReturnsInHanded {} Try.checked os 12 .any (Rows.guildStaysSpec.pre6 enc Try.prog Try.f12 Rows.guildStaysRow.domain false) (Rows.guildStaysSpec.post enc Try.prog Try.f12 false true false false) := by
  refine returnsInHanded_of_change (C := Try.checked) ownK started (by kernel_rfl) Try.func12
    (ChangeSpec.witness6 (enc := enc) (C := Try.checked) false ⟨#[], #[.slice none 0 0], []⟩ 8 (by kernel_rfl) (by kernel_rfl) (by kernel_rfl) (by kernel_rfl)) ?_
  intro W base args ds gs before hval0 hW hcnd _
  have hval : ∀ (j : Nat) t v, Try.f12.params[j]? = some t → args[j]? = some v → Value.okWide Try.prog W .any base t v := hval0
  have hW' := hW
  obtain ⟨p, q, hA0, hV, rfl, hfz, hnd⟩ := hW
  have hA : DataW.TrodAll enc Try.prog W 0 (fun _ => true) true Try.f12.params.toList args.toList ds p := hA0
  rw [Try.params12] at hA hval
  obtain ⟨v0, vs0, d0, ds0, p0, q0, hargs, rfl, rfl, h0, r0⟩ := trodAll_cons hA
  obtain ⟨rfl, rfl, rfl⟩ := trodAll_nil r0
  obtain rfl : args = #[v0] := by cases args; simp_all
  obtain ⟨rfl, rfl⟩ := trodVars_none hV
  obtain ⟨a0, len0, cap0, rfl⟩ := okWide_slice Try.underlying78 (hval 0 78 v0 rfl rfl)
  have k0 := h0
  have lt0 : ∀ x ∈ p0, x.block < W.heap.size := by obtain ⟨m, hm⟩ := k0; exact DataW.trod_lt m _ _ _ hm
  obtain ⟨z0, w0⟩ : ∃ fs, Sps W a0 len0 fs := by
    obtain ⟨fuel, hf⟩ := h0
    exact sps_of_trod (by simpa [Value.cells] using hf)
  clear hA0 hval0
  refine (gstays_any a0 len0 cap0 z0 W w0).mono fun e W' ⟨he, hch⟩ => ?_
  have bel := hch.below
  subst he
  exact ⟨_, rfl, _, _, _, [], _, [], hW', trodAll_mk1 (shut_bool Try.underlying4 _), (trodAll_cons_mk (Below.trod laidOutK (by kernel_rfl) (of_decide_eq_true (by kernel_rfl)) k0 bel lt0) trodAll_mk0), rfl, bel.frame _, fun h => by cases h⟩

theorem gstays_holds : Rows.GuildStaysSaid :=
  OpenClaim.holds_of_wide 12 Try.f12 rfl rfl rfl rfl rfl rfl rfl ⟨rfl, rfl, rfl, rfl, rfl⟩ rfl rfl rfl rfl rfl (by kernel_rfl) Try.func12 (by kernel_rfl)
    (of_decide_eq_true (by kernel_rfl)) (by unfold Func.isWrapper; first | (rw [if_pos (by decide +kernel)]; kernel_rfl) | (rw [if_neg (by decide +kernel)]; exact ⟨rfl, rfl⟩))
    (fun os started H enc _ => gstays_lifted os started H enc)

end Go.Proofs.Ytgcikokfgcpkfab

