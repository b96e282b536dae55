/- Proved: for all arguments laws.FnExactNightOver returns true (the program's NightOver answers as its model), and the arguments read afterwards as before. No condition. -/
import Derived.Test.YtmcfghklfkmfkaaLNightOver
import Derived.Test.YtmcfghklfkmfkaaRows
import Derived.ProofKit
import Derived.OpenShut
import Derived.ShutString
import Derived.ChangeOld
import Derived.Below
import Derived.Test.YtmcfghklfkmfkaaOpBakery
namespace Go.Proofs.Ytmcfghklfkmfkaa.fnExactNightOver
open Go.ChangeShapes Go.WideShapes Go.ChangeAt Go.RowKit
open Go.ChangeMaps (open_string shut_string)
set_option linter.unusedVariables false
theorem own : ownKnob Try.prog.godebug = none := by kernel_rfl
theorem laidOut : laidOutB Try.prog = true := by kernel_rfl
set_option maxRecDepth 100000 in
theorem lifted (os : Os) (started : os.Started) (H : Type) (enc : TypeId × Value → H) :
    ReturnsInHanded {} Try.checked os 3 .any (Rows.fnExactNightOverSpec.pre6 enc Try.prog Try.f3 Rows.fnExactNightOverRow.domain false) (Rows.fnExactNightOverSpec.post enc Try.prog Try.f3 false true false false) := by
  refine returnsInHanded_of_change (C := Try.checked) own started (by kernel_rfl) Try.func3
    (ChangeSpec.witness6 (enc := enc) (C := Try.checked) false ⟨#[], #[.agg #[.slice none 0 0, .int .i64 0, .int .i64 0, .int .i64 0, .int .i64 0, .int .i64 0, .slice none 0 0, .int .i64 0, .int .i64 0, .int .i64 0, .int .i64 0, .int .i64 0, .int .i64 0, .int .i64 0]], []⟩ 8 (by kernel_rfl) (by kernel_rfl) (by kernel_rfl) (by kernel_rfl)) ?_
  intro W base args ds gs before hval0 hW hcnd _
  have hval : ∀ (j : Nat) t v, Try.f3.params[j]? = some t → args[j]? = some v → Value.okWide Try.prog W .any base t v := hval0
  have hW' := hW
  obtain ⟨p, q, hA0, hV, rfl, hfz, hnd⟩ := hW
  have hA : DataW.TrodAll enc Try.prog W 0 (fun _ => true) true Try.f3.params.toList args.toList ds p := hA0
  rw [Try.params3] at hA hval
  obtain ⟨v0, vs0, d0, ds0, p0, q0, hargs, rfl, rfl, h0, r0⟩ := trodAll_cons hA
  obtain ⟨rfl, rfl, rfl⟩ := trodAll_nil r0
  obtain rfl : args = #[v0] := by cases args; simp_all
  obtain ⟨rfl, rfl⟩ := trodVars_none hV
  have k0 := h0
  have lt0 : ∀ x ∈ p0, x.block < W.heap.size := by obtain ⟨m, hm⟩ := k0; exact DataW.trod_lt m _ _ _ hm
  obtain ⟨A0x, n0x, c0x, z0x, b0_0, b0_1, b0_2, b0_3, b0_4, A0y, n0y, c0y, z0y, b0_5, b0_6, b0_7, b0_8, b0_9, b0_10, b0_11, rfl, m0x, w0x, u0_0, u0_1, u0_2, u0_3, u0_4, m0y, w0y, u0_5, u0_6, u0_7, u0_8, u0_9, u0_10, u0_11⟩ := openBakery (hval 0 35 v0 rfl rfl) h0
  clear hA0 hval0
  refine (walk_FnExactNightOver A0x n0x c0x z0x b0_0 u0_0 b0_1 u0_1 b0_2 u0_2 b0_3 u0_3 b0_4 u0_4 A0y n0y c0y z0y b0_5 u0_5 b0_6 u0_6 b0_7 u0_7 b0_8 u0_8 b0_9 u0_9 b0_10 u0_10 b0_11 u0_11 W m0x w0x m0y w0y).mono fun e W' ⟨he, bel⟩ => ?_
  subst he
  exact ⟨_, rfl, _, _, _, [], _, [], hW', trodAll_mk1 (shut_bool Try.underlying4 _), (trodAll_cons_mk (Below.trod laidOut (by kernel_rfl) (of_decide_eq_true (by kernel_rfl)) k0 bel lt0) (trodAll_mk0)), rfl, bel.frame _, fun h => by cases h⟩

theorem over : Rows.fnExactNightOverRow.holds Try.pinned (OpenSpec.ofChange Rows.fnExactNightOverSpec) :=
  OpenClaim.holds_of_wide 3 Try.f3 rfl rfl rfl rfl rfl rfl rfl ⟨rfl, rfl, rfl, rfl, rfl⟩ rfl rfl rfl rfl rfl (by kernel_rfl) Try.func3 (by kernel_rfl)
    (of_decide_eq_true (by kernel_rfl)) (by unfold Func.isWrapper; first | (rw [if_pos (by decide +kernel)]; kernel_rfl) | (rw [if_neg (by decide +kernel)]; exact ⟨rfl, rfl⟩))
    (fun os started H enc _ => lifted os started H enc)

theorem proved : Rows.FnExactNightOverSaid := over
#print axioms proved
end Go.Proofs.Ytmcfghklfkmfkaa.fnExactNightOver
