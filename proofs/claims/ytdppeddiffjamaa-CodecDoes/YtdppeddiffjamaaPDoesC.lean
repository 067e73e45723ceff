/- For every record and all bytes the law CodecDoes returns true, and leaves them as they were; no condition. -/
import Derived.Test.YtdppeddiffjamaaLDoesC
import Derived.Test.YtdppeddiffjamaaCFrame
namespace Go.Proofs.Ytdppeddiffjamaa
open Go.ChangeShapes Go.WideShapes Go.ChangeAt Go.RowKit

set_option maxRecDepth 100000 in
theorem cdoes_long (r : Rc) (a : Option Addr) (n cap : Nat) (w : World) (hn4 : ¬ n ≤ 4000) :
    Calls Try.prog 10 #[.agg r.cells, .slice a n cap] w fun e w' => e = .returned (.bool true) ∧ Chg [] w w' := by
  have hle : decide ((4000 : Int) < (n : Int)) = true := by simp; omega
  unfold Rc.cells
  go_enter Try.func10, Try.ntmps10
  go_wp2_with fail
  refine (cbegun_any _).mono ?_
  rintro e w1 ⟨rfl, g1⟩
  have G1 : Chg [] w w1 := ((Chg.refl _ _).alloc _).trans g1 (by simp)
  clear g1
  go_wp2
  go_ret
  exact ⟨rfl, G1⟩

theorem cdoes_any (r : Rc) (a : Option Addr) (n cap : Nat) (f : Nat → Int) (w : World) (hcap : n ≤ cap) (hB : Byt w a n f) :
    Calls Try.prog 10 #[.agg r.cells, .slice a n cap] w fun e w' => e = .returned (.bool true) ∧ Chg [] w w' := by
  by_cases hn4 : n ≤ 4000
  · by_cases h : ckR r = 0
    · exact cdoes_yes r a n cap f w h hn4 hcap hB
    · exact cdoes_no r a n cap f w h hn4 hcap hB
  · exact cdoes_long r a n cap w hn4

set_option maxRecDepth 100000 in
theorem cdoes_lifted (os : Os) (started : os.Started) (H : Type) (enc : TypeId × Value → H) :
    ReturnsInHanded {} Try.checked os 10 .any (Rows.codecDoesSpec.pre6 enc Try.prog Try.f10 Rows.codecDoesRow.domain false) (Rows.codecDoesSpec.post enc Try.prog Try.f10 false true false false) := by
  refine returnsInHanded_of_change (C := Try.checked) ownC started (by kernel_rfl) Try.func10
    (ChangeSpec.witness6 (enc := enc) (C := Try.checked) false ⟨#[], #[.agg #[.int .i64 0, .int .i64 0, .int .i64 0, .int .i64 0, .int .i64 0, .int .i64 0, .int .i64 0], .slice none 0 0], []⟩ 8 (by kernel_rfl) (by kernel_rfl) (by kernel_rfl) (by kernel_rfl)) ?_
  intro W base args ds gs before hval0 hW hcnd _
  have hval : ∀ (j : Nat) t v, Try.f10.params[j]? = some t → args[j]? = some v → Value.okWide Try.prog W .any base t v := hval0
  have hW' := hW
  obtain ⟨p, q, hA0, hV, rfl, hfz, hnd⟩ := hW
  have hA : DataW.TrodAll enc Try.prog W 0 (fun _ => true) true Try.f10.params.toList args.toList ds p := hA0
  rw [Try.params10] at hA hval
  obtain ⟨v0, vs0, d0, ds0, p0, q0, hargs, rfl, rfl, h0, r0⟩ := trodAll_cons hA
  obtain ⟨v1, vs1, d1, ds1, p1, q1, rfl, rfl, rfl, h1, r1⟩ := trodAll_cons r0
  obtain ⟨rfl, rfl, rfl⟩ := trodAll_nil r1
  obtain rfl : args = #[v0, v1] := by cases args; simp_all
  obtain ⟨rfl, rfl⟩ := trodVars_none hV
  have k0 := h0
  have lt0 : ∀ x ∈ p0, x.block < W.heap.size := by obtain ⟨m, hm⟩ := k0; exact DataW.trod_lt m _ _ _ hm
  obtain ⟨a0, rfl⟩ := open_rcd (hval 0 48 v0 rfl rfl) h0
  have k1 := h1
  have lt1 : ∀ x ∈ p1, x.block < W.heap.size := by obtain ⟨m, hm⟩ := k1; exact DataW.trod_lt m _ _ _ hm
  obtain ⟨a1, len1, cap1, rfl⟩ := okWide_slice Try.underlying49 (hval 1 49 v1 rfl rfl)
  obtain ⟨c1, -, z1, w1⟩ : len1 ≤ cap1 ∧ (a1 = none → len1 = 0 ∧ cap1 = 0) ∧ ∃ f, Byt W a1 len1 f := by
    obtain ⟨fuel, hf⟩ := h1
    exact byt_of_trod (by simpa [Value.cells] using hf)
  clear hA0 hval0
  refine (cdoes_any a0 a1 len1 cap1 z1 W c1 w1).mono fun e W' ⟨he, hch⟩ => ?_
  have bel := hch.below
  subst he
  exact ⟨_, rfl, _, _, _, [], _, [], hW', trodAll_mk1 (shut_bool Try.underlying4 _), (trodAll_cons_mk (Below.trod laidOutC (by kernel_rfl) (of_decide_eq_true (by kernel_rfl)) k0 bel lt0) (trodAll_cons_mk (Below.trod laidOutC (by kernel_rfl) (of_decide_eq_true (by kernel_rfl)) k1 bel lt1) trodAll_mk0)), rfl, bel.frame _, fun h => by cases h⟩

theorem cdoes_holds : Rows.CodecDoesSaid :=
  OpenClaim.holds_of_wide 10 Try.f10 rfl rfl rfl rfl rfl rfl rfl ⟨rfl, rfl, rfl, rfl, rfl⟩ rfl rfl rfl rfl rfl (by kernel_rfl) Try.func10 (by kernel_rfl)
    (of_decide_eq_true (by kernel_rfl)) (by unfold Func.isWrapper; first | (rw [if_pos (by decide +kernel)]; kernel_rfl) | (rw [if_neg (by decide +kernel)]; exact ⟨rfl, rfl⟩))
    (fun os started H enc _ => cdoes_lifted os started H enc)

end Go.Proofs.Ytdppeddiffjamaa
