/- For all bytes and all steps the law NodeDoes returns true, and leaves them as they were; no condition. -/
import Derived.Test.YtafbacijfiodhabMOc
import Derived.Test.YtafbacijfiodhabMgKFrame
namespace Go.Proofs.Ytafbacijfiodhab
open Go.RowKit

set_option maxRecDepth 100000 in
set_option maxHeartbeats 8000000 in
theorem ndoes_any (vb : Value) (bs : List Int) (a : Option Addr) (len cap : Nat) (fs : Nat → Ns) (W : World) (hb : Sl W vb bs) (hk : okB bs) (h : Nss W a len fs) :
    Calls Try.prog 5 #[vb, .slice a len cap] W fun e w' => e = .returned (.bool true) ∧ Chg [] W w' := by
  have HB := hide hb
  have HK := hide hk
  have HH := hide h
  obtain ⟨ab, cab, rfl⟩ := sl_slice hb
  clear hb hk h
  by_cases hbig : 1400 < bs.length
  · have d1 : decide ((1400 : Int) < (bs.length : Int)) = true := by simp; omega
    go_enter Try.func5, Try.ntmps5
    go_wp2_with (go_at_call 18; refine (nbegun_any _).mono ?_; rintro e w1 ⟨rfl, G1⟩)
    go_ret
    exact ⟨rfl, G1⟩
  have d1 : decide ((1400 : Int) < (bs.length : Int)) = false := by simp; omega
  by_cases hbig2 : 200 < len
  · have d2 : decide ((200 : Int) < (len : Int)) = true := by simp; omega
    go_enter Try.func5, Try.ntmps5
    go_wp2_with (go_at_call 18; refine (nbegun_any _).mono ?_; rintro e w1 ⟨rfl, G1⟩)
    go_ret
    exact ⟨rfl, G1⟩
  have d2 : decide ((200 : Int) < (len : Int)) = false := by simp; omega
  go_enter Try.func5, Try.ntmps5
  go_wp2_with (first
    | (go_at_call 18; refine (nbegun_any _).mono ?_; rintro e w1 ⟨rfl, G1⟩)
    | (go_at_call 19; refine (newcrew_any _ bs _ ((unhide HB).chg G1 (by simp)) (unhide HK) (by omega)).mono ?_; rintro e w2 ⟨cb, db, pb, v, u, rfl, h1, h2, B, D, P, A, hp, c1, c2, g2⟩))
  obtain ⟨own, C0⟩ := crew_start h1 h2 B D P A hp c1 c2 g2
  have HC0 := hide C0
  clear h1 h2 B D P A hp c1 c2 g2 C0
  go_loopw [6] (fun i wr => ∃ (k : Nat) (m : Mm) (s : St), k ≤ len ∧ i = .int .i64 k ∧ Crw w1 wr m s ∧ m.cb = cb ∧ m.db = db ∧ s.p.ep = s.d.ep ∧ Same s) (fun i _ => len - (intOf i).toNat)
  case atStart => exact ⟨0, _, _, by omega, rfl, unhide HC0, rfl, rfl, rfl, rfl, fun _ _ => rfl⟩
  case round =>
    obtain ⟨k, m, s, hkl, rfl, C, rfl, rfl, he, hS⟩ := hrel
    clear HC0
    by_cases hlt : k < len
    · have hki : (k : Int) < (len : Int) := by omega
      have hk0 : (0 : Int) ≤ (k : Int) := by omega
      rcases unhide HH with h0 | ⟨bl, off, rfl, hbl, hO⟩
      · omega
      have GW := G1.trans C.ch (by simp)
      obtain ⟨p0, p1, p2, p3, p4, p5, p6, p7, p8⟩ := (hO k hlt).chg GW hbl
      clear hO
      have HX := hide C
      have HS := hide hS
      clear C hS
      by_cases h3 : (k : Int) % 3 = 0
      · have b3 : ((k : Int) % 3 == 0) = true := by simpa using h3
        go_wp2_with (first
          | (go_at_call 20; refine (step_any w1 m s (fs k) _ (unhide HX) he).mono ?_; rintro e w3 ⟨bo, m', s', rfl, C3, e1, e2, e3, hs⟩; obtain ⟨rfl, hS3⟩ := hs (unhide HS); have HC3 := hide C3; have HS3 := hide hS3; have HE1 := hide e1; have HE2 := hide e2; have HE3 := hide e3; clear C3 hS3 hs e1 e2 e3)
          | (go_at_call 21; refine (show Calls Try.prog 21 #[.pointer (some ⟨m.cb, 0, none⟩)] w3 (fun e w' => e = .returned (.bool true) ∧ Chg [] w3 w') from (unhide HE1) ▸ csame_any w1 m' s' w3 (unhide HC3) (unhide HS3)).mono ?_; rintro e w4 ⟨rfl, g4⟩))
        go_roundw
        case rel => exact ⟨k + 1, m', s', by omega, by go_num, (unhide HC3).same g4, unhide HE1, unhide HE2, unhide HE3, unhide HS3⟩
        case measure => go_light; simp [intOf]; omega
      · have b3 : ((k : Int) % 3 == 0) = false := by simpa using h3
        go_wp2_with (first
          | (go_at_call 20; refine (step_any w1 m s (fs k) _ (unhide HX) he).mono ?_; rintro e w3 ⟨bo, m', s', rfl, C3, e1, e2, e3, hs⟩; obtain ⟨rfl, hS3⟩ := hs (unhide HS); have HC3 := hide C3; have HS3 := hide hS3; have HE1 := hide e1; have HE2 := hide e2; have HE3 := hide e3; clear C3 hS3 hs e1 e2 e3))
        go_roundw
        case rel => exact ⟨k + 1, m', s', by omega, by go_num, unhide HC3, unhide HE1, unhide HE2, unhide HE3, unhide HS3⟩
        case measure => go_light; simp [intOf]; omega
    · have hki : ¬ (k : Int) < (len : Int) := by omega
      have HX := hide C
      have HS := hide hS
      clear C hS
      go_wp2_with (go_at_call 21; refine (csame_any w1 m s _ (unhide HX) (unhide HS)).mono ?_; rintro e w4 ⟨rfl, g4⟩)
      go_ret
      exact ⟨rfl, (G1.trans (unhide HX).ch (by simp)).trans g4 (by simp)⟩

end Go.Proofs.Ytafbacijfiodhab

namespace Go.Proofs.Ytafbacijfiodhab
open Go.ChangeShapes Go.WideShapes Go.ChangeAt Go.RowKit

set_option maxRecDepth 100000 in
theorem ndoes_lifted (os : Os) (started : os.Started) (H : Type) (enc : TypeId × Value → H) :
    ReturnsInHanded {} Try.checked os 5 .any (Rows.nodeDoesSpec.pre6 enc Try.prog Try.f5 Rows.nodeDoesRow.domain false) (Rows.nodeDoesSpec.post enc Try.prog Try.f5 false true false false) := by
  refine returnsInHanded_of_change (C := Try.checked) ownK started (by kernel_rfl) Try.func5
    (ChangeSpec.witness6 (enc := enc) (C := Try.checked) false ⟨#[], #[.slice none 0 0, .slice none 0 0], []⟩ 8 (by kernel_rfl) (by kernel_rfl) (by kernel_rfl) (by kernel_rfl)) ?_
  intro W base args ds gs before hval0 hW hcnd _
  have hval : ∀ (j : Nat) t v, Try.f5.params[j]? = some t → args[j]? = some v → Value.okWide Try.prog W .any base t v := hval0
  have hW' := hW
  obtain ⟨p, q, hA0, hV, rfl, hfz, hnd⟩ := hW
  have hA : DataW.TrodAll enc Try.prog W 0 (fun _ => true) true Try.f5.params.toList args.toList ds p := hA0
  rw [Try.params5] at hA hval
  obtain ⟨v0, vs0, d0, ds0, p0, q0, hargs, rfl, rfl, h0, r0⟩ := trodAll_cons hA
  obtain ⟨v1, vs1, d1, ds1, p1, q1, rfl, rfl, rfl, h1, r1⟩ := trodAll_cons r0
  obtain ⟨rfl, rfl, rfl⟩ := trodAll_nil r1
  obtain rfl : args = #[v0, v1] := by cases args; simp_all
  obtain ⟨rfl, rfl⟩ := trodVars_none hV
  obtain ⟨a0, len0, cap0, rfl⟩ := okWide_slice Try.underlying27 (hval 0 27 v0 rfl rfl)
  have k0 := h0
  have lt0 : ∀ x ∈ p0, x.block < W.heap.size := by obtain ⟨m, hm⟩ := k0; exact DataW.trod_lt m _ _ _ hm
  obtain ⟨z0, w0, y0⟩ : ∃ l, Sl W (.slice a0 len0 cap0) l ∧ okB l := by
    obtain ⟨fuel, hf⟩ := h0
    have hf2 : DataW.trod enc Try.prog W 0 (fun _ => true) true fuel 27 [.slice a0 len0 cap0] = some (d0, p0) := by simpa [Value.cells] using hf
    obtain ⟨v9, l9, e9, h9, g9⟩ := sl_of_trod hf2
    simp at e9
    subst e9
    exact ⟨l9, h9, g9⟩
  obtain ⟨a1, len1, cap1, rfl⟩ := okWide_slice Try.underlying38 (hval 1 38 v1 rfl rfl)
  have k1 := h1
  have lt1 : ∀ x ∈ p1, x.block < W.heap.size := by obtain ⟨m, hm⟩ := k1; exact DataW.trod_lt m _ _ _ hm
  obtain ⟨z1, w1⟩ : ∃ fs, Nss W a1 len1 fs := by
    obtain ⟨fuel, hf⟩ := h1
    exact nss_of_trod (by simpa [Value.cells] using hf)
  clear hA0 hval0
  refine (ndoes_any (.slice a0 len0 cap0) z0 a1 len1 cap1 z1 W w0 y0 w1).mono fun e W' ⟨he, hch⟩ => ?_
  have bel := hch.below
  subst he
  exact ⟨_, rfl, _, _, _, [], _, [], hW', trodAll_mk1 (shut_bool Try.underlying4 _), (trodAll_cons_mk (Below.trod laidOutK (by kernel_rfl) (of_decide_eq_true (by kernel_rfl)) k0 bel lt0) (trodAll_cons_mk (Below.trod laidOutK (by kernel_rfl) (of_decide_eq_true (by kernel_rfl)) k1 bel lt1) trodAll_mk0)), rfl, bel.frame _, fun h => by cases h⟩

theorem ndoes_holds : Rows.NodeDoesSaid :=
  OpenClaim.holds_of_wide 5 Try.f5 rfl rfl rfl rfl rfl rfl rfl ⟨rfl, rfl, rfl, rfl, rfl⟩ rfl rfl rfl rfl rfl (by kernel_rfl) Try.func5 (by kernel_rfl)
    (of_decide_eq_true (by kernel_rfl)) (by unfold Func.isWrapper; first | (rw [if_pos (by decide +kernel)]; kernel_rfl) | (rw [if_neg (by decide +kernel)]; exact ⟨rfl, rfl⟩))
    (fun os started H enc _ => ndoes_lifted os started H enc)

end Go.Proofs.Ytafbacijfiodhab

