/-
  DERIVED. GIVEN WITH THE SEED: THE PROGRAM's TIES (one call each: nine closed facts by the kernel) AND EACH ROW's TIE, after the 31st guide's Derived/Test/Toyas{Tie, Card}.lean. No idea stands in it: it is a product of the set-up. Laid BY PROGRAM, IN A SANDBOX (cutbox-door.mjs). By AI agents, Wed Nov 11 2026. No macro, syntax, notation, axiom, sorry.
-/
import Derived.Test.YtkaaebpoljnbnaaDoorRows
import Derived.LaidByTextLater
import Derived.SevenTiedAt
import Derived.LaidSub
import Derived.LaidOnce
namespace Go.Proofs.YtkaaebpoljnbnaaDoor
open Go
set_option maxRecDepth 100000
theorem seatTie1 : Tryd.prog.laidByTextLater [("loop.example/g03310/impl.bands", Rows.laid_loop_example_g03310_impl_bands), ("loop.example/g03310/impl.errNoPrice", Rows.laid_loop_example_g03310_impl_errNoPrice)] [.data, .sentinel] true :=
  Program.laidByTextLater_by_one 39 8 13 (by kernel_rfl) (by kernel_rfl) (by kernel_rfl) (by kernel_rfl) (by kernel_rfl) (by kernel_rfl) (fun _ _ => by kernel_rfl)
theorem noOwnUnsafe : Tryd.pinned.checked.prog.headLifts.contains "ownunsafe" = false := by kernel_rfl
theorem tie : Tryd.prog.laidByTextLater [("loop.example/g03310/impl.errNoPrice", Rows.laid_loop_example_g03310_impl_errNoPrice)] [.sentinel] true :=
  Program.laidByTextLater.sub seatTie1 ["loop.example/g03310/impl.errNoPrice"] (by kernel_rfl) (by kernel_rfl)
theorem fnCosts_row_tie : Rows.fnCostsRow.laidByTextAt .later Tryd.pinned [.sentinel] true :=
  OpenClaim.laidByTextAt_later rfl rfl tie noOwnUnsafe
theorem tie2 : Tryd.prog.laidByTextLater [("loop.example/g03310/impl.bands", Rows.laid_loop_example_g03310_impl_bands)] [.data] true :=
  Program.laidByTextLater.sub seatTie1 ["loop.example/g03310/impl.bands"] (by kernel_rfl) (by kernel_rfl)
theorem fnRises_row_tie : Rows.fnRisesRow.laidByTextAt .later Tryd.pinned [.data] true :=
  OpenClaim.laidByTextAt_later rfl rfl tie2 noOwnUnsafe
theorem fnCostsUpto_row_tie : Rows.fnCostsUptoRow.laidByTextAt .later Tryd.pinned [.sentinel] true :=
  OpenClaim.laidByTextAt_later rfl rfl tie noOwnUnsafe
theorem fnRisesUpto_row_tie : Rows.fnRisesUptoRow.laidByTextAt .later Tryd.pinned [.data] true :=
  OpenClaim.laidByTextAt_later rfl rfl tie2 noOwnUnsafe
end Go.Proofs.YtkaaebpoljnbnaaDoor
