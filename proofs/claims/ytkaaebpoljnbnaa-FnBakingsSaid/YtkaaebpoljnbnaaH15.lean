/- Chapter 15: IsBetter. -/
import Derived.Test.YtkaaebpoljnbnaaG15
import Derived.Test.YtkaaebpoljnbnaaQuiet
namespace Go.Proofs.Ytkaaebpoljnbnaa
open Go.ChangeShapes Go.WideShapes Go.ChangeAt Go.RowKit
set_option linter.unusedVariables false
set_option linter.unusedSimpArgs false

def betterB (n : Nat) (xs : List OddsR) (a b g d : Int) : Bool := ok15 n xs a g d && ok15 n xs b g d && decide (gainS n xs b g d < gainS n xs a g d)
theorem heldC4 {B : Nat} {a w' : World} {p q r t : Addr} {x y z u : Value} (h : In B a w') (k0 : w'.cell? p = some x) (k1 : w'.cell? q = some y) (k2 : w'.cell? r = some z) (k3 : w'.cell? t = some u) :
    In B a w' ∧ w'.cell? p = some x ∧ w'.cell? q = some y ∧ w'.cell? r = some z ∧ w'.cell? t = some u := ⟨h, k0, k1, k2, k3⟩
theorem heldC4_step {B : Nat} {a w0 w' : World} {p q r t : Addr} {x y z u : Value} (hb : Below w0.heap.size w0 w') (h : In B a w0 ∧ w0.cell? p = some x ∧ w0.cell? q = some y ∧ w0.cell? r = some z ∧ w0.cell? t = some u) :
    In B a w' ∧ w'.cell? p = some x ∧ w'.cell? q = some y ∧ w'.cell? r = some z ∧ w'.cell? t = some u :=
  ⟨h.1.step hb, (hb.cell (cell_lt h.2.1)).trans h.2.1, (hb.cell (cell_lt h.2.2.1)).trans h.2.2.1, (hb.cell (cell_lt h.2.2.2.1)).trans h.2.2.2.1, (hb.cell (cell_lt h.2.2.2.2)).trans h.2.2.2.2⟩
theorem cell_al {w : World} {p : Addr} {v : Value} (h : w.cell? p = some v) (o : Obj) : (w.alloc o).cell? p = some v := (((Below.refl _ w).alloc (Nat.le_refl _) o).cell (cell_lt h)).trans h
theorem iplanFor' (A : Option Addr) (n c : Nat) (g d : Int) (w : World) : Calls Try.prog 54 #[.slice A n c, .int .i64 g, .int .i64 d] w fun e w' => ∃ p1 p2 p3 : Nat, e = .returned (.agg #[.func (Fn.func 64) #[] #[.pointer (some ⟨p1, 0, none⟩), .pointer (some ⟨p2, 0, none⟩), .pointer (some ⟨p3, 0, none⟩)]]) ∧ Below w.heap.size w w' ∧
    w'.cell? ⟨p1, 0, none⟩ = some (.slice A n c) ∧ w'.cell? ⟨p2, 0, none⟩ = some (.int .i64 g) ∧ w'.cell? ⟨p3, 0, none⟩ = some (.int .i64 d) :=
  (iplanFor A n c g d w).mono fun e w' h => ⟨_, _, _, h⟩
set_option maxHeartbeats 2000000 in
theorem iIsBetter (A : Option Addr) (n c : Nat) (xs : List OddsR) (a b g d : Int) (w : World) (hn : n ≤ maxLen) (hx : ReadsOdds w A n xs) : Calls Try.prog 27 #[.slice A n c, .int .i64 a, .int .i64 b, .int .i64 g, .int .i64 d] w (Val (.bool (betterB n xs a b g d)) w) := by
  go_enter Try.func27, Try.ntmps27
  go_wp2_with fail
  refine (icanPlan A n c xs g d _ hn hx).mono ?_
  rintro _ w1 ⟨rfl, hb1⟩
  have i1 : In w.heap.size w w1 := In.step (by (repeat (first | exact In.refl _ | assumption | apply In.alloc | apply In.drewN | apply In.drew | (refine In.step ?_ (by assumption))))) hb1
  clear hb1
  cases h1 : planB n xs g d
  · have hf : ok15 n xs a g d = false := by simp only [planB, Bool.and_eq_false_iff] at h1; rcases h1 with (h | h) | h <;> simp [ok15, h]
    go_wp2
    go_ret
    exact Val.mk' (v_bool (by simp [betterB, hf])) (by (repeat (first | exact In.refl _ | assumption | apply In.alloc | apply In.drewN | apply In.drew | (refine In.step ?_ (by assumption)))))
  go_wp2_with fail
  refine (ibakedOk a _).mono ?_
  rintro _ _ ⟨rfl, rfl⟩
  cases h2 : inB a 0 1000
  · go_wp2
    go_ret
    exact Val.mk' (v_bool (by simp [betterB, ok15, h2])) (by (repeat (first | exact In.refl _ | assumption | apply In.alloc | apply In.drewN | apply In.drew | (refine In.step ?_ (by assumption)))))
  go_wp2_with fail
  refine (ibakedOk b _).mono ?_
  rintro _ _ ⟨rfl, rfl⟩
  cases h3 : inB b 0 1000
  · go_wp2
    go_ret
    exact Val.mk' (v_bool (by simp [betterB, ok15, h3])) (by (repeat (first | exact In.refl _ | assumption | apply In.alloc | apply In.drewN | apply In.drew | (refine In.step ?_ (by assumption)))))
  have hA : ok15 n xs a g d = true := by simp only [planB, ok15, Bool.and_eq_true] at h1 ⊢; exact ⟨⟨⟨h1.1.1, h2⟩, h1.1.2⟩, h1.2⟩
  have hB : ok15 n xs b g d = true := by simp only [planB, ok15, Bool.and_eq_true] at h1 ⊢; exact ⟨⟨⟨h1.1.1, h3⟩, h1.1.2⟩, h1.2⟩
  have HR : Hid (betterB n xs a b g d = decide (gainS n xs b g d < gainS n xs a g d)) := Lib.hid (by simp [betterB, hA, hB])
  have HA := Lib.hid hA
  have HB := Lib.hid hB
  clear h1 h2 h3 hA hB
  go_wp2_with fail
  refine (iplanFor' A n c g d _).mono ?_
  rintro _ w2 ⟨p1, p2, p3, rfl, hb2, c1, c2, c3⟩
  have i2 : In w.heap.size w w2 := In.step (by (repeat (first | exact In.refl _ | assumption | apply In.alloc | apply In.drewN | apply In.drew | (refine In.step ?_ (by assumption))))) hb2
  clear hb2 i1
  have HC := Lib.hid (fun (b : Int) (W : World) (hW : In w.heap.size w W) (k1 : W.cell? ⟨p1, 0, none⟩ = some (.slice A n c)) (k2 : W.cell? ⟨p2, 0, none⟩ = some (.int .i64 g)) (k3 : W.cell? ⟨p3, 0, none⟩ = some (.int .i64 d)) (hB : ok15 n xs b g d = true) => iplan A n c xs b g d p1 p2 p3 W hB (hx.in_ hW) k1 k2 k3)
  have hk : (w2.alloc (.cells #[Value.func (Fn.func 64) #[] #[.pointer (some ⟨p1, 0, none⟩), .pointer (some ⟨p2, 0, none⟩), .pointer (some ⟨p3, 0, none⟩)]] 63)).cell? ⟨w2.heap.size, 0, none⟩ = some (Value.func (Fn.func 64) #[] #[.pointer (some ⟨p1, 0, none⟩), .pointer (some ⟨p2, 0, none⟩), .pointer (some ⟨p3, 0, none⟩)]) := (Blk.new w2 _ _).cell 0
  have c1' := cell_al c1 (.cells #[Value.func (Fn.func 64) #[] #[.pointer (some ⟨p1, 0, none⟩), .pointer (some ⟨p2, 0, none⟩), .pointer (some ⟨p3, 0, none⟩)]] 63)
  have c2' := cell_al c2 (.cells #[Value.func (Fn.func 64) #[] #[.pointer (some ⟨p1, 0, none⟩), .pointer (some ⟨p2, 0, none⟩), .pointer (some ⟨p3, 0, none⟩)]] 63)
  have c3' := cell_al c3 (.cells #[Value.func (Fn.func 64) #[] #[.pointer (some ⟨p1, 0, none⟩), .pointer (some ⟨p2, 0, none⟩), .pointer (some ⟨p3, 0, none⟩)]] 63)
  have i3 : In w.heap.size w (w2.alloc (.cells #[Value.func (Fn.func 64) #[] #[.pointer (some ⟨p1, 0, none⟩), .pointer (some ⟨p2, 0, none⟩), .pointer (some ⟨p3, 0, none⟩)]] 63)) := by (repeat (first | exact In.refl _ | assumption | apply In.alloc | apply In.drewN | apply In.drew | (refine In.step ?_ (by assumption))))
  go_wp2
  refine wp_region_S (C := (fun w' => In w.heap.size w w' ∧ w'.cell? ⟨p1, 0, none⟩ = some (.slice A n c) ∧ w'.cell? ⟨p2, 0, none⟩ = some (.int .i64 g) ∧ w'.cell? ⟨p3, 0, none⟩ = some (.int .i64 d) ∧ w'.cell? ⟨w2.heap.size, 0, none⟩ = some (Value.func (Fn.func 64) #[] #[.pointer (some ⟨p1, 0, none⟩), .pointer (some ⟨p2, 0, none⟩), .pointer (some ⟨p3, 0, none⟩)]))) (by kernel_rfl) (by kernel_rfl) ?_ ?_
  · exact heldC4 i3.drew c1' c2' c3' hk
  repeat (first | go_big_quiet_skip | (go_big_quiet_want; first | (refine quiet_ex ?_; apply Exists.intro; refine ⟨fun W hW => ?_, ?_⟩; (· (obtain ⟨j1, f1, f2, f3, f4⟩ := hW; go_simp; (first | done | with_reducible rfl | rfl))); simp only [Act.put, List.setIfInBounds_toArray, List.set_cons_zero, List.set_cons_succ]; go_big_quiet_on) | (refine quiet_ex ?_; apply Exists.intro; refine ⟨fun W hW => ?_, ?_⟩; (· (go_simp; first | (go_at_call 64; (with_reducible refine (HC.out _ W hW.1 hW.2.1 hW.2.2.1 hW.2.2.2.1 ?hok).mono ?_); (case hok => first | exact HA.out | exact HB.out); (rintro e w3 ⟨rfl, hb3⟩; exact ⟨rfl, heldC4_step hb3 hW⟩)))); simp only [Act.put, List.setIfInBounds_toArray, List.set_cons_zero, List.set_cons_succ]; go_big_quiet_on)))
  refine wpQuiet_nil ?_
  rintro w' ⟨j1, f1, f2, f3, f4⟩
  by_cases h3 : gainS n xs b g d < gainS n xs a g d
  all_goals
    go_wp2
    go_ret
    exact Val.mk' (v_bool (by simp [HR.out, h3])) (by (repeat (first | exact In.refl _ | assumption | apply In.alloc | apply In.drewN | apply In.drew | (refine In.step ?_ (by assumption)))))
end Go.Proofs.Ytkaaebpoljnbnaa
