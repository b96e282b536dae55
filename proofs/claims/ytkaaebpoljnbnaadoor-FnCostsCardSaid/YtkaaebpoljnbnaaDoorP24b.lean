/- Chapter 24: errors.Is where the target is a sentinel of errors.New; PriceFor, MarginOf. -/
import Derived.Test.YtkaaebpoljnbnaaDoorC24
import Derived.Test.YtkaaebpoljnbnaaDoorRows
import Derived.WalkKit
import Derived.LaidEql
import Derived.Stop.Asserts
import Derived.RowKitTokens
import Derived.Stop.LaidErr
import Derived.Stop.Texts
namespace Go.Proofs.YtkaaebpoljnbnaaDoor
open Go.Extern.Stop Go.Stop Go.Extern Go.ChangeShapes Go.WideShapes Go.ChangeAt Go.RowKit
set_option linter.unusedVariables false
set_option linter.unusedSimpArgs false
set_option maxHeartbeats 2000000

theorem isTypeOf (v : Value) (w : World) : (Extern.ReflectliteType.typeOf #[.iface 75 v]).run Tryd.prog w = .ok (.iface 64 (.agg #[.pointer (some ⟨2, 75, none⟩)])) w := by kernel_rfl
def cmpM : Array Value → Sem Value := Extern.ReflectliteType.method fun t => do Go.Extern.Rtype.noPackHeld "Comparable" t; pure (.bool (← typeInfo t).comparable)
theorem findCmp : Extern.find Tryd.f51 = some cmpM := by kernel_rfl
theorem isComparable (w : World) : (cmpM #[.agg #[.pointer (some ⟨2, 75, none⟩)]]).run Tryd.prog w = .ok (.bool true) w := by kernel_rfl
theorem isMethodComparable (v : Value) (w : World) : (Go.method 213 64 v "Comparable").run Tryd.prog w = .ok (51, v) w := by kernel_rfl
theorem isComp : (Tryd.prog.info? 75).map (·.comparable) = some true := by kernel_rfl
theorem isSize : (Tryd.prog.info? 101).map (·.size) = some 1 := by kernel_rfl
theorem is_same (a : Addr) (w : World) :
    Calls Tryd.prog 23 #[.iface 75 (.pointer (some a)), .iface 75 (.pointer (some a))] w fun e w' => e = .returned (.bool true) ∧ w' = w := by
  obtain ⟨i, hi, hcmp⟩ := Option.map_eq_some_iff.1 isComp
  obtain ⟨j, hj, hjs⟩ := Option.map_eq_some_iff.1 isSize
  have h8 := @run_callFunc_extern Tryd.prog 30 _ Extern.ReflectliteType.typeOf Tryd.func30 (by kernel_rfl) (by kernel_rfl) (by kernel_rfl) (by kernel_rfl)
  have h32 := @run_callFunc_extern Tryd.prog 51 _ cmpM Tryd.func51 (by kernel_rfl) (by kernel_rfl) (by kernel_rfl) findCmp
  have tT := isTypeOf
  have cT := isComparable
  have mR := isMethodComparable
  have heq := run_eql_iface_ptr_same (P := Tryd.prog) w a Tryd.underlying44 Tryd.underlying75 hi hcmp hj
  go_enter Tryd.func23, Tryd.ntmps23
  go_wp2
  refine wp_loop_rounds 1 ?_
  rw [rounds_succ]
  go_wp2
  go_ret
  exact ⟨rfl, rfl⟩
theorem is_nil (b : Addr) (w : World) :
    Calls Tryd.prog 23 #[.nilIface, .iface 75 (.pointer (some b))] w fun e w' => e = .returned (.bool false) ∧ w' = w := by
  have hn := run_eql_iface_nil_left (P := Tryd.prog) w 75 (.pointer (some b)) Tryd.underlying44
  go_enter Tryd.func23, Tryd.ntmps23
  go_wp2
  go_ret
  exact ⟨rfl, rfl⟩
/-! the sentinel -/
theorem gErr : Tryd.prog.globalNamed "loop.example/g03310/impl.errNoPrice" = some 0 := by kernel_rfl
theorem gErrType : (Tryd.prog.globals[0]?).map (·.type) = some 44 := by kernel_rfl
theorem cellsS : Tryd.prog.cellsOf 101 = 1 := by kernel_rfl
theorem cellsStr : Tryd.prog.cellsOf 9 = 1 := by kernel_rfl
theorem starE : "*" ++ "errors.errorString" = "*errors.errorString" := by decide
theorem rowP (u : TypeId) (h : Tryd.prog.typeName? 3 u = some "*errors.errorString") : u = 75 :=
  typeName_ptr_named (nm := "errors.errorString") (by rw [starE]; kernel_rfl) (by kernel_rfl) (by decide) u (by rw [starE]; exact h)
def ErrP (a : Addr) (w : World) : Prop := w.cell? ⟨0, 0, none⟩ = some (.iface 75 (.pointer (some a)))
theorem ErrP.in_ {a : Addr} {w w' : World} (h : ErrP a w) (hi : In w.heap.size w w') : ErrP a w' := cell_in h hi
theorem err_of {W : World} (h : laidMetH Tryd.prog [("loop.example/g03310/impl.errNoPrice", Rows.laid_loop_example_g03310_impl_errNoPrice)] W) : ∃ a, ErrP a W := by
  have h' : laidMet Tryd.prog [("loop.example/g03310/impl.errNoPrice", Rows.laid_loop_example_g03310_impl_errNoPrice)] W := h
  obtain ⟨a, s, hv, _, _, _⟩ := laid_sentinel h' gErr gErrType Tryd.underlying44 rowP Tryd.underlying75 Tryd.underlying101 rfl rfl Tryd.underlying9 cellsS cellsStr
  exact ⟨a, World.var?_cell gErr hv 0⟩
/-! the price -/
def prcB (x y z p : Int) : Bool := costB x y z && inB p 0 500
def prcN (x y z p : Int) : Int := ((x + y + z) * (100 + p) + 499) / 500 * 5
def priceV (x y z p : Int) : Int := if prcB x y z p then prcN x y z p else -1
theorem mulb {s q : Int} (h1 : 0 ≤ s ∧ s ≤ 300000) (h2 : 100 ≤ q ∧ q ≤ 600) : 0 ≤ s * q ∧ s * q ≤ 180000000 := by
  have := mul_in (A := 300000) (B := 600) h1.1 h1.2 (show 0 ≤ q by omega) h2.2
  omega
theorem iUp24 (n : Int) (h1 : 0 ≤ n) (h2 : n ≤ 1000000000) (w : World) : Calls Tryd.prog 25 #[.int .i64 n, .int .i64 500] w (Same (i64 ((n + 499) / 500)) w) := by
  have e1 : wrap64 (n + 500) = n + 500 := w64 (by omega)
  have e2 : wrap64 (n + 500 - 1) = n + 500 - 1 := w64 (by omega)
  have e3 : wrap64 ((n + 500 - 1).tdiv 500) = (n + 499) / 500 := by rw [Int.tdiv_eq_ediv_of_nonneg (by omega), show n + 500 - 1 = n + 499 by omega]; exact w64 (by omega)
  go_enter Tryd.func25, Tryd.ntmps25
  go_wp2
  go_ret
  exact ⟨ret_int (by (try simp only [e1, e2, e3]); (try omega)), rfl⟩
def poV (a : Addr) (x y z p : Int) : Value := if prcB x y z p then .tuple #[.int .i64 (prcN x y z p), .nilIface] else .tuple #[.int .i64 0, .iface 75 (.pointer (some a))]
set_option maxHeartbeats 4000000 in
theorem ipriceOf (a : Addr) (x y z p : Int) (w : World) (hE : ErrP a w) : Calls Tryd.prog 22 #[.agg #[.int .i64 x, .int .i64 y, .int .i64 z], .int .i64 p] w (Val (poV a x y z p) w) := by
  have HE := Lib.hid hE
  clear hE
  cases h1 : costB x y z
  · have HV : Hid (poV a x y z p = .tuple #[.int .i64 0, .iface 75 (.pointer (some a))]) := Lib.hid (by simp [poV, prcB, h1])
    go_enter Tryd.func22, Tryd.ntmps22
    go_wp2_with fail
    refine (iCostOk x y z _).mono ?_
    rintro _ w1 ⟨rfl, hb1⟩
    have i1 : In w.heap.size w w1 := In.step (by (repeat (first | exact In.refl _ | assumption | apply In.alloc | apply In.drewN | apply In.drew | (refine In.step ?_ (by assumption))))) hb1
    have ce : w1.cell? ⟨0, 0, none⟩ = some (.iface 75 (.pointer (some a))) := HE.out.in_ i1
    rw [h1]
    go_wp2_with fail
    go_region
    go_wp2
    exact bodyPost_ret (v := .tuple #[.int .i64 0, .iface 75 (.pointer (some a))]) (by simp [results, Tryd.results22, go_sem]) rfl (show Val _ _ _ _ from ⟨by rw [HV.out], In.below (by (repeat (first | exact In.refl _ | assumption | apply In.alloc | apply In.drewN | apply In.drew | (refine In.step ?_ (by assumption)))))⟩)
  cases h2 : inB p 0 500
  · have HV : Hid (poV a x y z p = .tuple #[.int .i64 0, .iface 75 (.pointer (some a))]) := Lib.hid (by simp [poV, prcB, h2])
    go_enter Tryd.func22, Tryd.ntmps22
    go_wp2_with fail
    refine (iCostOk x y z _).mono ?_
    rintro _ w1 ⟨rfl, hb1⟩
    have i1 : In w.heap.size w w1 := In.step (by (repeat (first | exact In.refl _ | assumption | apply In.alloc | apply In.drewN | apply In.drew | (refine In.step ?_ (by assumption))))) hb1
    have ce : w1.cell? ⟨0, 0, none⟩ = some (.iface 75 (.pointer (some a))) := HE.out.in_ i1
    rw [h1]
    go_wp2_with (first | (go_at_call 24; refine (iIn _ _ _ _).mono ?_; rintro e w' ⟨rfl, rfl⟩))
    go_region
    go_wp2
    exact bodyPost_ret (v := .tuple #[.int .i64 0, .iface 75 (.pointer (some a))]) (by simp [results, Tryd.results22, go_sem]) rfl (show Val _ _ _ _ from ⟨by rw [HV.out], In.below (by (repeat (first | exact In.refl _ | assumption | apply In.alloc | apply In.drewN | apply In.drew | (refine In.step ?_ (by assumption)))))⟩)
  have HV : Hid (poV a x y z p = .tuple #[.int .i64 (prcN x y z p), .nilIface]) := Lib.hid (by simp [poV, prcB, h1, h2])
  have c9 := cost_in h1
  have p9 := inB_tt h2
  have m9 := mulb (s := x + y + z) (q := 100 + p) (by omega) (by omega)
  have v1 : wrap64 (x + y) = x + y := w64 (by omega)
  have v2 : wrap64 (x + y + z) = x + y + z := w64 (by omega)
  have v3 : wrap64 (100 + p) = 100 + p := w64 (by omega)
  have v4 : wrap64 ((x + y + z) * (100 + p)) = (x + y + z) * (100 + p) := w64 (by omega)
  have v7 : wrap64 (((x + y + z) * (100 + p) + 499) / 500 * 5) = prcN x y z p := w64 (by omega)
  have HV1 := Lib.hid v7
  clear v7 c9 p9
  go_enter Tryd.func22, Tryd.ntmps22
  go_wp2_with fail
  refine (iCostOk x y z _).mono ?_
  rintro _ w1 ⟨rfl, hb1⟩
  have k1 : Blk w1 w.heap.size 25 #[.int .i64 x, .int .i64 y, .int .i64 z] := (Blk.new w 25 #[.int .i64 x, .int .i64 y, .int .i64 z]).step hb1
  have c0 := k1.cell 0
  have c1 := k1.cell 1
  have c2 := k1.cell 2
  simp at c0 c1 c2
  clear k1
  rw [h1]
  go_wp2_with (first | (go_at_call 24; refine (iIn _ _ _ _).mono ?_; rintro e w' ⟨rfl, rfl⟩) | (go_at_call 25; refine (iUp24 _ m9.1 (by omega) _).mono ?_; rintro e w' ⟨rfl, rfl⟩))
  exact bodyPost_ret (v := .tuple #[.int .i64 (prcN x y z p), .nilIface]) (by simp [results, Tryd.results22, go_sem, prcN]) rfl (show Val _ _ _ _ from ⟨by rw [HV.out], In.below (by (repeat (first | exact In.refl _ | assumption | apply In.alloc | apply In.drewN | apply In.drew | (refine In.step ?_ (by assumption)))))⟩)
set_option maxHeartbeats 4000000 in
theorem iPriceFor (a : Addr) (x y z p : Int) (w : World) (hE : ErrP a w) : Calls Tryd.prog 8 #[.agg #[.int .i64 x, .int .i64 y, .int .i64 z], .int .i64 p] w (Val (i64 (priceV x y z p)) w) := by
  have HE := Lib.hid hE
  clear hE
  cases h1 : prcB x y z p
  · have HV : Hid (priceV x y z p = -1) := Lib.hid (by simp [priceV, h1])
    have HP : Hid (poV a x y z p = .tuple #[.int .i64 0, .iface 75 (.pointer (some a))]) := Lib.hid (by simp [poV, h1])
    go_enter Tryd.func8, Tryd.ntmps8
    go_wp2_with fail
    refine (ipriceOf a x y z p _ (HE.out.in_ (by (repeat (first | exact In.refl _ | assumption | apply In.alloc | apply In.drewN | apply In.drew | (refine In.step ?_ (by assumption))))))).mono ?_
    rintro _ w1 ⟨rfl, hb1⟩
    have i1 : In w.heap.size w w1 := In.step (by (repeat (first | exact In.refl _ | assumption | apply In.alloc | apply In.drewN | apply In.drew | (refine In.step ?_ (by assumption))))) hb1
    have ce : w1.cell? ⟨0, 0, none⟩ = some (.iface 75 (.pointer (some a))) := HE.out.in_ i1
    rw [HP.out]
    go_wp2_with fail
    refine (is_same a _).mono ?_
    rintro _ _ ⟨rfl, rfl⟩
    go_wp2
    go_ret
    exact Val.mk' (v_int HV.out.symm) (by (repeat (first | exact In.refl _ | assumption | apply In.alloc | apply In.drewN | apply In.drew | (refine In.step ?_ (by assumption)))))
  · have HV : Hid (priceV x y z p = prcN x y z p) := Lib.hid (by simp [priceV, h1])
    have HP : Hid (poV a x y z p = .tuple #[.int .i64 (prcN x y z p), .nilIface]) := Lib.hid (by simp [poV, h1])
    go_enter Tryd.func8, Tryd.ntmps8
    go_wp2_with fail
    refine (ipriceOf a x y z p _ (HE.out.in_ (by (repeat (first | exact In.refl _ | assumption | apply In.alloc | apply In.drewN | apply In.drew | (refine In.step ?_ (by assumption))))))).mono ?_
    rintro _ w1 ⟨rfl, hb1⟩
    have i1 : In w.heap.size w w1 := In.step (by (repeat (first | exact In.refl _ | assumption | apply In.alloc | apply In.drewN | apply In.drew | (refine In.step ?_ (by assumption))))) hb1
    have ce : w1.cell? ⟨0, 0, none⟩ = some (.iface 75 (.pointer (some a))) := HE.out.in_ i1
    rw [HP.out]
    go_wp2_with fail
    refine (is_nil a _).mono ?_
    rintro _ _ ⟨rfl, rfl⟩
    go_wp2
    go_ret
    exact Val.mk' (v_int HV.out.symm) (by (repeat (first | exact In.refl _ | assumption | apply In.alloc | apply In.drewN | apply In.drew | (refine In.step ?_ (by assumption)))))
/-! MarginOf -/
def mgF (x y z pr : Int) : Nat → Int
  | 0 => if prcN x y z 0 ≤ pr then 0 else -1
  | k + 1 => if prcN x y z ((k + 1 : Nat) : Int) ≤ pr then ((k + 1 : Nat) : Int) else mgF x y z pr k
def margV (x y z pr : Int) : Int := if costB x y z && inB pr 0 10000000 then mgF x y z pr 500 else -1
theorem mgF_t {x y z pr : Int} {k : Nat} (h : prcN x y z k ≤ pr) : mgF x y z pr k = k := by
  cases k with
  | zero => rw [mgF]; exact if_pos h
  | succ k => rw [mgF]; exact if_pos h
theorem mgF_f {x y z pr : Int} {k : Nat} (h : ¬ prcN x y z ((k + 1 : Nat) : Int) ≤ pr) : mgF x y z pr (k + 1) = mgF x y z pr k := by rw [mgF]; exact if_neg h
theorem mgF_z {x y z pr : Int} (h : ¬ prcN x y z ((0 : Nat) : Int) ≤ pr) : mgF x y z pr 0 = -1 := by rw [mgF]; exact if_neg h
theorem price_at {x y z : Int} {k : Nat} (h : costB x y z = true) (hk : k ≤ 500) : prcB x y z k = true := by rw [prcB, h, inB_t (by omega)]; rfl
set_option maxRecDepth 20000 in
set_option maxHeartbeats 4000000 in
theorem iMarginOf (a : Addr) (x y z pr : Int) (w : World) (hE : ErrP a w) : Calls Tryd.prog 9 #[.agg #[.int .i64 x, .int .i64 y, .int .i64 z], .int .i64 pr] w (Val (i64 (margV x y z pr)) w) := by
  have HE := Lib.hid hE
  clear hE
  cases h2 : inB pr 0 10000000
  · have HV : Hid (margV x y z pr = -1) := Lib.hid (by simp [margV, h2])
    go_enter Tryd.func9, Tryd.ntmps9
    go_wp2_with (first | (go_at_call 24; refine (iIn _ _ _ _).mono ?_; rintro e w' ⟨rfl, rfl⟩))
    go_ret
    exact Val.mk' (v_int HV.out.symm) (by (repeat (first | exact In.refl _ | assumption | apply In.alloc | apply In.drewN | apply In.drew | (refine In.step ?_ (by assumption)))))
  cases h1 : costB x y z
  · have HV : Hid (margV x y z pr = -1) := Lib.hid (by simp [margV, h1])
    have HP : Hid (poV a x y z 500 = .tuple #[.int .i64 0, .iface 75 (.pointer (some a))]) := Lib.hid (by simp [poV, prcB, h1])
    have k0 : Blk (w.alloc (.cells #[.int .i64 x, .int .i64 y, .int .i64 z] 25)) w.heap.size 25 #[.int .i64 x, .int .i64 y, .int .i64 z] := Blk.new w _ _
    go_enter Tryd.func9, Tryd.ntmps9
    go_wp2_with (first | (go_at_call 24; refine (iIn _ _ _ _).mono ?_; rintro e w' ⟨rfl, rfl⟩))
    go_loopw [5] (fun i wr => i = .int .i64 500 ∧ In (w.alloc (.cells #[.int .i64 x, .int .i64 y, .int .i64 z] 25)).heap.size (w.alloc (.cells #[.int .i64 x, .int .i64 y, .int .i64 z] 25)) wr) (fun _ _ => 0)
    case atStart => exact ⟨rfl, In.refl _⟩
    case round =>
      obtain ⟨rfl, hi⟩ := hrel
      have k1 := k0.step hi.below
      have c0 := k1.cell 0
      have c1 := k1.cell 1
      have c2 := k1.cell 2
      simp at c0 c1 c2
      have hiw : In w.heap.size w wr := ((In.refl w).alloc _).trans hi
      clear k0 k1 hi
      go_wp2_with fail
      refine (ipriceOf a x y z 500 _ (HE.out.in_ (by (repeat (first | exact In.refl _ | assumption | apply In.alloc | apply In.drewN | apply In.drew | (refine In.step ?_ (by assumption))))))).mono ?_
      rintro _ w1 ⟨rfl, hb1⟩
      have i1 : In w.heap.size w w1 := In.step (by (repeat (first | exact In.refl _ | assumption | apply In.alloc | apply In.drewN | apply In.drew | (refine In.step ?_ (by assumption))))) hb1
      have ce : w1.cell? ⟨0, 0, none⟩ = some (.iface 75 (.pointer (some a))) := HE.out.in_ i1
      rw [HP.out]
      go_wp2_with fail
      refine (is_same a _).mono ?_
      rintro _ _ ⟨rfl, rfl⟩
      go_wp2
      go_ret
      exact Val.mk' (v_int HV.out.symm) (by (repeat (first | exact In.refl _ | assumption | apply In.alloc | apply In.drewN | apply In.drew | (refine In.step ?_ (by assumption)))))
  have HV : Hid (margV x y z pr = mgF x y z pr 500) := Lib.hid (by simp [margV, h1, h2])
  have p9 := inB_tt h2
  have k0 : Blk (w.alloc (.cells #[.int .i64 x, .int .i64 y, .int .i64 z] 25)) w.heap.size 25 #[.int .i64 x, .int .i64 y, .int .i64 z] := Blk.new w _ _
  have iw0 : In w.heap.size w (w.alloc (.cells #[.int .i64 x, .int .i64 y, .int .i64 z] 25)) := (In.refl w).alloc _
  have HK0 := Lib.hid k0
  have HI0 := Lib.hid iw0
  clear k0 iw0
  go_enter Tryd.func9, Tryd.ntmps9
  go_wp2_with (first | (go_at_call 24; refine (iIn _ _ _ _).mono ?_; rintro e w' ⟨rfl, rfl⟩))
  clear h2
  generalize (w.alloc (.cells #[.int .i64 x, .int .i64 y, .int .i64 z] 25)) = w0 at *
  go_loopw [5] (fun i wr => ((∃ k : Nat, k ≤ 500 ∧ i = .int .i64 k ∧ mgF x y z pr 500 = mgF x y z pr k) ∨ (i = .int .i64 (-1) ∧ mgF x y z pr 500 = -1)) ∧ In w0.heap.size w0 wr) (fun i _ => (intOf i + 1).toNat)
  case atStart => exact ⟨.inl ⟨500, Nat.le_refl _, rfl, rfl⟩, by (repeat (first | exact In.refl _ | assumption | apply In.alloc | apply In.drewN | apply In.drew | (refine In.step ?_ (by assumption))))⟩
  case round =>
    obtain ⟨hr, hi⟩ := hrel
    have k1 := HK0.out.step hi.below
    have c0 := k1.cell 0
    have c1 := k1.cell 1
    have c2 := k1.cell 2
    simp at c0 c1 c2
    have hiw : In w.heap.size w wr := HI0.out.trans hi
    clear k1
    rcases hr with ⟨k, hk, rfl, hg⟩ | ⟨rfl, hg⟩
    · have HG := Lib.hid hg
      have HP : Hid (poV a x y z k = .tuple #[.int .i64 (prcN x y z k), .nilIface]) := Lib.hid (by simp [poV, price_at h1 hk])
      have HK5 := Lib.hid hk
      have HTT : Hid (prcN x y z k ≤ pr → mgF x y z pr k = k) := Lib.hid fun h => mgF_t h
      have HFF : Hid (¬ prcN x y z k ≤ pr → k = 0 → mgF x y z pr k = -1) := Lib.hid fun h e => by subst e; exact mgF_z h
      have HSS : Hid (¬ prcN x y z k ≤ pr → ∀ k', k = k' + 1 → mgF x y z pr k = mgF x y z pr k') := Lib.hid fun h k' e => by subst e; exact mgF_f h
      have hkI : (k : Int) ≤ 500 := by omega
      clear hg hk
      go_wp2_with fail
      refine (ipriceOf a x y z k _ (HE.out.in_ (by (repeat (first | exact In.refl _ | assumption | apply In.alloc | apply In.drewN | apply In.drew | (refine In.step ?_ (by assumption))))))).mono ?_
      rintro _ w1 ⟨rfl, hb1⟩
      have i1 : In w.heap.size w w1 := In.step (by (repeat (first | exact In.refl _ | assumption | apply In.alloc | apply In.drewN | apply In.drew | (refine In.step ?_ (by assumption))))) hb1
      have j1 : In w0.heap.size w0 w1 := In.step (by (repeat (first | exact In.refl _ | assumption | apply In.alloc | apply In.drewN | apply In.drew | (refine In.step ?_ (by assumption))))) hb1
      have ce : w1.cell? ⟨0, 0, none⟩ = some (.iface 75 (.pointer (some a))) := HE.out.in_ i1
      rw [HP.out]
      go_wp2_with fail
      refine (is_nil a _).mono ?_
      rintro _ _ ⟨rfl, rfl⟩
      generalize prcN x y z k = q9 at *
      by_cases hq : q9 ≤ pr
      · have HT := Lib.hid (HTT.out hq)
        go_wp2
        go_ret
        exact Val.mk' (v_int (by rw [HV.out, HG.out, HT.out])) (by (repeat (first | exact In.refl _ | assumption | apply In.alloc | apply In.drewN | apply In.drew | (refine In.step ?_ (by assumption)))))
      · have HN := Lib.hid hq
        go_wp2
        go_roundw
        case rel =>
          refine ⟨?_, by (repeat (first | exact In.refl _ | assumption | apply In.alloc | apply In.drewN | apply In.drew | (refine In.step ?_ (by assumption))))⟩
          by_cases e : k = 0
          · right; exact ⟨by subst e; go_num, by rw [HG.out]; exact HFF.out HN.out e⟩
          · left; exact ⟨k - 1, by have := HK5.out; omega, by go_num, by rw [HG.out]; exact HSS.out HN.out (k - 1) (by omega)⟩
        case measure => first | (simp [intOf]; done) | (simp [intOf]; omega)
    · have HG := Lib.hid hg
      clear hg
      go_wp2
      go_ret
      exact Val.mk' (v_int (by rw [HV.out, HG.out])) (by (repeat (first | exact In.refl _ | assumption | apply In.alloc | apply In.drewN | apply In.drew | (refine In.step ?_ (by assumption)))))
end Go.Proofs.YtkaaebpoljnbnaaDoor
