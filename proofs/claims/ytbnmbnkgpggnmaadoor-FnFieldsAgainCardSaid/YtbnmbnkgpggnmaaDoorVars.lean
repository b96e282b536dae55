import Derived.Test.YtbnmbnkgpggnmaaDoorPu
import Derived.Lib.LaidTab
import Derived.LaidSub
import Derived.LaidLaws
namespace Go.Proofs.YtbnmbnkgpggnmaaDoor
open Go.ChangeShapes Go.WideShapes Go.ChangeAt Go.RowKit
set_option linter.unusedVariables false

theorem gTabType : (Tryd.prog.globals[3]?).map (·.type) = some 81 := by kernel_rfl
theorem cellsTab : Tryd.prog.cellsOf 81 = 20 := by kernel_rfl
theorem cellsU64 : Tryd.prog.cellsOf 69 = 1 := by kernel_rfl
/-- the table of powers, out of any list of variables that has it -/
theorem table {laid : List (String × DataW Unit)} {W : World} (h : laidMetH Tryd.prog laid W) (hf : laid.filter (fun x => x.1 == "internal/strconv.uint64pow10") = [("internal/strconv.uint64pow10", Lib.tabData .u64 Lib.pow10Tab)]) :
    Lib.TabIs Tryd.prog W "internal/strconv.uint64pow10" .u64 Lib.pow10Tab := by
  have h2 := h.filter (fun x => x.1 == "internal/strconv.uint64pow10")
  rw [hf] at h2
  exact Lib.tabIs_of_head (rest := []) gTab gTabType Tryd.underlying81 Tryd.underlying69 cellsU64 cellsTab h2

/-- a sentinel's variable, out of any list that has it -/
theorem sentinel {laid : List (String × DataW Unit)} {W : World} (name text : String) (d : DataW Unit) (g : Nat) (h : laidMetH Tryd.prog laid W) (hf : laid.filter (fun x => x.1 == name) = [(name, .iface text d)])
    (hg : Tryd.prog.globalNamed name = some g) (hty : (Tryd.prog.globals[g]?).map (·.type) = some 47) (hh : (DataW.iface text d : DataW Unit).handleName? = none) : ∃ tp p, W.var? Tryd.prog name = some #[.iface tp p] := by
  have h2 := h.filter (fun x => x.1 == name)
  rw [hf] at h2
  unfold laidMetH at h2
  have he : ([(name, (DataW.iface text d : DataW Unit))].filter fun x => x.2.handleName?.isSome) = [] := by simp [hh]
  rw [he] at h2
  obtain ⟨ps, ⟨g', t', cs, fuel, p, q, hg', ht', hvar, hd, _, _⟩, _⟩ := h2
  obtain rfl := Option.some.inj (hg.symm.trans hg')
  obtain rfl := Option.some.inj (hty.symm.trans ht')
  obtain ⟨f1, u, v, hc, _, _⟩ := iface_of_trod Tryd.underlying47 hd
  refine ⟨u, v, ?_⟩
  rw [hvar]
  congr 1
  cases cs
  simp at hc
  rw [hc]

theorem vars_of {laid : List (String × DataW Unit)} {W : World} (h : laidMetH Tryd.prog laid W)
    (h1 : laid.filter (fun x => x.1 == "internal/strconv.uint64pow10") = [("internal/strconv.uint64pow10", Lib.tabData .u64 Lib.pow10Tab)])
    (h2 : laid.filter (fun x => x.1 == "strconv.ErrSyntax") = [("strconv.ErrSyntax", Rows.laid_strconv_ErrSyntax)])
    (h3 : laid.filter (fun x => x.1 == "strconv.ErrRange") = [("strconv.ErrRange", Rows.laid_strconv_ErrRange)]) : ∃ tp1 tp2 p1 p2, Vars W tp1 tp2 p1 p2 := by
  obtain ⟨a, b, hab⟩ := sentinel "strconv.ErrSyntax" _ _ 1 h h2 (by kernel_rfl) (by kernel_rfl) rfl
  obtain ⟨c, d, hcd⟩ := sentinel "strconv.ErrRange" _ _ 2 h h3 (by kernel_rfl) (by kernel_rfl) rfl
  exact ⟨a, c, b, d, table h h1, hab, hcd⟩
theorem gSyn : Tryd.prog.globalNamed "strconv.ErrSyntax" = some 1 := by kernel_rfl
theorem gRan : Tryd.prog.globalNamed "strconv.ErrRange" = some 2 := by kernel_rfl
theorem Vars.below {w w' : World} {tp1 tp2 : TypeId} {p1 p2 : Value} (h : Vars w tp1 tp2 p1 p2) (hb : Below w.heap.size w w') : Vars w' tp1 tp2 p1 p2 :=
  ⟨Go.Joins.tab_stays gTab h.tab hb (Nat.le_refl _), Go.Joins.var_stays gSyn h.syn hb (Nat.le_refl _), Go.Joins.var_stays gRan h.ran hb (Nat.le_refl _)⟩
end Go.Proofs.YtbnmbnkgpggnmaaDoor
