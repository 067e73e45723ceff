/-
 What the listed variables give; how a slice of texts reads; how long a text can be. Nothing here is claimed by itself.
-/
import Derived.Test.YtllnjiljjodfdacGreatDoorRows
import Derived.ProofKit
import Derived.LaidMore
import Derived.OpenShut
import Derived.Stop.Joined
import Derived.Stop.LaidErr
import Derived.Lib.LaidTab
import Derived.SliceStrings
import Derived.SizedLaws
import Derived.ChangeOld
import Derived.Below
import Derived.Test.YtllnjiljjodfdacGreatDoorQgE0
namespace Go.Proofs.YtllnjiljjodfdacGreatDoor
open Go.ChangeShapes Go.WideShapes Go.ChangeAt Go.RowKit

theorem ownF : ownKnob Tryz.prog.godebug = none := by kernel_rfl
theorem laidOutF : laidOutB Tryz.prog = true := by kernel_rfl
theorem gTabF : ∃ g, Tryz.prog.globalNamed "internal/strconv.uint64pow10" = some g ∧ (Tryz.prog.globals[g]?).map (·.type) = some 217 := ⟨3, by kernel_rfl, by kernel_rfl⟩
theorem gSynF : ∃ g, Tryz.prog.globalNamed "strconv.ErrSyntax" = some g ∧ (Tryz.prog.globals[g]?).map (·.type) = some 89 := ⟨1, by kernel_rfl, by kernel_rfl⟩
theorem gRngF : ∃ g, Tryz.prog.globalNamed "strconv.ErrRange" = some g ∧ (Tryz.prog.globals[g]?).map (·.type) = some 89 := ⟨2, by kernel_rfl, by kernel_rfl⟩
theorem cellsStrF : Tryz.prog.cellsOf 9 = 1 := by kernel_rfl
theorem cellsErrF : Tryz.prog.cellsOf 215 = 1 := by kernel_rfl
theorem starF : "*" ++ "errors.errorString" = "*errors.errorString" := by decide
theorem rowErrF (u : TypeId) (h : Tryz.prog.typeName? 3 u = some "*errors.errorString") : u = 213 :=
 typeName_ptr_named (nm := "errors.errorString") (by rw [starF]; kernel_rfl) (by kernel_rfl) (by decide) u (by rw [starF]; exact h)
def laidF : List (String × DataW Unit) := Rows.deskJoinsRow.laid
theorem door_metF (os : Os) (args : Array Value) : laidMetH Tryz.prog laidF ((World.doorLaid Tryz.prog 400 os).forCall (fun _ _ => 0) ⟨#[], args, []⟩).memory :=
 laidMetH_of_parts3 (fuel := 8) (laidMet_of_run' 8 (by kernel_rfl) (by kernel_rfl)) (by kernel_rfl) (by kernel_rfl)
theorem vars_of_laid {W : World} (h : laidMetH Tryz.prog laidF W) : Vars W := by
 rw [MakeChecks.laidMetH_plain _ _ _ (by kernel_rfl)] at h
 obtain ⟨g1, t1, t2⟩ := gTabF
 obtain ⟨g2, y1, y2⟩ := gSynF
 obtain ⟨g3, r1, r2⟩ := gRngF
 have h3 := h.tail.tail
 have e3 : (Rows.laid_internal_strconv_uint64pow10 : DataW Unit) = Lib.tabData .u64 Lib.pow10Tab := by kernel_rfl
 obtain ⟨a0, s0, hv0, -, -, -⟩ := laid_sentinel h.tail.tail.tail r1 r2 Tryz.underlying89 rowErrF Tryz.underlying213 Tryz.underlying215 rfl rfl Tryz.underlying9 cellsErrF cellsStrF
 obtain ⟨a4, s4, hv4, -, -, -⟩ := laid_sentinel h.tail.tail.tail.tail y1 y2 Tryz.underlying89 rowErrF Tryz.underlying213 Tryz.underlying215 rfl rfl Tryz.underlying9 cellsErrF cellsStrF
 rw [e3] at h3
 exact ⟨Lib.tabIs_of_head t1 t2 Tryz.underlying217 Tryz.underlying182 (by kernel_rfl) (by kernel_rfl) h3, ⟨_, _, hv4⟩, ⟨_, _, hv0⟩⟩

theorem weights_strs {H : Type} {P : Program} {e : TypeId} : ∀ (ss : List ByteArray) (s : ByteArray), s ∈ ss → s.data.toList.length ∈ DataW.weightsAll P e (strs ss : List (DataW H))
 | x :: r, s, hs => by
  show _ ∈ DataW.weights P e (DataW.lit (.string x.data.toList)) ++ DataW.weightsAll P e (strs r)
  rcases List.mem_cons.1 hs with rfl | hs
  ·exact List.mem_append_left _ (by simp [DataW.weights])
  ·exact List.mem_append_right _ (weights_strs r s hs)
/-- A slice of texts, as it reads. -/
theorem strs_of_trod {H : Type} {enc : TypeId × Value → H} {W : World} {base : Nat} {spare : Nat → Bool} {held : Bool} {fuel : Nat} {a : Option Addr} {len cap : Nat} {x : DataW H × List MemPlace}
  (h : DataW.trod enc Tryz.prog W base spare held fuel 22 [.slice a len cap] = some x) :
  ∃ ls : List (List UInt8), ls.length = len ∧ len ≤ cap ∧ (a = none → cap = 0) ∧ Strs W a ls ∧ ∀ y ∈ ls, y.length ∈ x.1.weights Tryz.prog 22 := by
 rcases open_strings Tryz.underlying22 Tryz.underlying9 cellsStrF h with ⟨hcs, _⟩ | ⟨y, len', cap', ss, hcs, _, hl, _, hss, rfl, hcell, _⟩
 ·simp at hcs
  obtain ⟨rfl, rfl, rfl⟩ := hcs
  exact ⟨[], rfl, Nat.le_refl _, fun _ => rfl, .inl rfl, by simp⟩
 ·simp at hcs
  obtain ⟨rfl, rfl, rfl⟩ := hcs
  have hml : len ≤ ss.length := by rw [hss]; split <;> omega
  refine ⟨(ss.take len).map (fun s => s.data.toList), by simp; omega, hl, (fun e => by cases e), ?_, fun z hz => ?_⟩
  ·by_cases hz : len = 0
   ·subst hz
    exact .inl (by simp)
   obtain ⟨b, off, sp⟩ := y
   have hsp : sp = none := by
    have := hcell 0 (by omega)
    simpa [Addr.add] using World.cell?_spot this
   subst hsp
   have h0 := hcell 0 (by omega)
   refine .inr ⟨b, off, rfl, World.block_lt_of_cell? W _ (by simpa [Addr.add] using h0), fun i z hz => ?_⟩
   rw [List.getElem?_map, List.getElem?_take] at hz
   split at hz
   ·rename_i hi
    have hc := hcell i (by omega)
    have e : ((⟨b, off, none⟩ : Addr).add i) = ⟨b, off + i, none⟩ := by unfold Addr.add; split <;> simp_all
    rw [e] at hc
    cases hs : ss[i]? with
    | none => rw [hs] at hz; cases hz
    | some s =>
     rw [hs] at hz
     cases hz
     rw [hc, List.getD, hs]
     simp only [Option.getD_some]
     rw [strA_toList]
   ·cases hz
  ·obtain ⟨s, hs, rfl⟩ := List.mem_map.1 hz
   have := weights_strs (H := H) (P := Tryz.prog) (e := 9) (ss.take len) s hs
   simp only [DataW.weights, Tryz.underlying22]
   exact List.mem_cons_of_mem _ (List.mem_append_left _ this)
theorem reachF {n : Nat} (h : n ≤ reachBytes) : n ≤ 1000000000000000000 := by
 have := reachBytes_lt
 have e3 : (2 : Nat) ^ 47 = 140737488355328 := by decide
 omega

end Go.Proofs.YtllnjiljjodfdacGreatDoor

