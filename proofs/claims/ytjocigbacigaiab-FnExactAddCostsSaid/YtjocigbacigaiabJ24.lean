/- Law of chapter 24: AddCosts. -/
import Derived.Test.YtjocigbacigaiabInv
import Derived.Test.YtjocigbacigaiabA24
import Derived.Test.YtjocigbacigaiabSCost
namespace Go.Proofs.Ytjocigbacigaiab
open Go.ChangeShapes Go.WideShapes Go.ChangeAt Go.RowKit
set_option linter.unusedVariables false
set_option linter.unusedSimpArgs false
def updf (f : Nat → Value) (k : Nat) (v : Value) : Nat → Value := fun j => if j = k then v else f j
def JIa (w0 : World) (g0 g1 : Nat) (a0_0 a0_1 a0_2 a1_0 a1_1 a1_2 : Int) (a : Act) (w : World) : Prop :=
  (∃ f : Nat → Value, a = ⟨#[.agg #[.int .i64 a0_0, .int .i64 a0_1, .int .i64 a0_2], .agg #[.int .i64 a1_0, .int .i64 a1_1, .int .i64 a1_2], .pointer (some ⟨g0, 0, none⟩), .pointer (some ⟨g1, 0, none⟩), .bool false, f 5, f 6, undef, undef, f 9, f 10, f 11, f 12, f 13, f 14, f 15, f 16, undef, undef, undef, undef, undef, undef, undef, undef, undef, undef, undef, undef, undef, undef, undef, undef, undef], []⟩) ∧ In w0.heap.size w0 w ∧ Blk w g0 23 #[.int .i64 a0_0, .int .i64 a0_1, .int .i64 a0_2] ∧ Blk w g1 23 #[.int .i64 a1_0, .int .i64 a1_1, .int .i64 a1_2]
def JFa (B : Nat) (a0_0 a0_1 a0_2 a1_0 a1_1 a1_2 r0 r1 r2 : Int) (e1 : Bool) : Nat → Act → World → Prop
  | 0, a, _ => a.tmps[10]? = some (.agg #[.int .i64 a0_0, .int .i64 a0_1, .int .i64 a0_2])
  | 1, a, _ => a.tmps[11]? = some (.agg #[.int .i64 a0_0, .int .i64 a0_1, .int .i64 a0_2])
  | 2, a, _ => a.tmps[12]? = some (.agg #[.int .i64 a1_0, .int .i64 a1_1, .int .i64 a1_2])
  | 3, a, _ => a.tmps[13]? = some (.agg #[.int .i64 a1_0, .int .i64 a1_1, .int .i64 a1_2])
  | 4, a, _ => a.tmps[14]? = some (.tuple #[.agg #[.int .i64 r0, .int .i64 r1, .int .i64 r2], .bool e1])
  | 5, a, _ => a.tmps[9]? = some (.tuple #[.agg #[.int .i64 r0, .int .i64 r1, .int .i64 r2], .bool e1])
  | 6, a, _ => a.tmps[15]? = some (.agg #[.int .i64 r0, .int .i64 r1, .int .i64 r2])
  | 7, a, _ => a.tmps[16]? = some (.bool e1)
  | 8, a, w => ∃ g x0 x1 x2, B ≤ g ∧ a.tmps[5]? = some (.pointer (some ⟨g, 0, none⟩)) ∧ Blk w g 24 #[x0, x1, x2]
  | 9, a, w => ∃ g, B ≤ g ∧ a.tmps[5]? = some (.pointer (some ⟨g, 0, none⟩)) ∧ Blk w g 24 #[.int .i64 r0, .int .i64 r1, .int .i64 r2]
  | 10, a, _ => a.tmps[6]? = some (.bool e1)
  | _, _, _ => True
def JIb (w0 : World) (g0 g1 : Nat) (a0_0 a0_1 a0_2 a1_0 a1_1 a1_2 : Int) (h : Nat → Value) (g5 : Nat) (r0 : Int) (r1 : Int) (r2 : Int) (e1 : Bool) (a : Act) (w : World) : Prop :=
  (∃ f : Nat → Value, a = ⟨#[.agg #[.int .i64 a0_0, .int .i64 a0_1, .int .i64 a0_2], .agg #[.int .i64 a1_0, .int .i64 a1_1, .int .i64 a1_2], .pointer (some ⟨g0, 0, none⟩), .pointer (some ⟨g1, 0, none⟩), .bool false, .pointer (some ⟨g5, 0, none⟩), .bool e1, f 7, f 8, h 9, h 10, h 11, h 12, h 13, h 14, h 15, h 16, f 17, f 18, f 19, f 20, f 21, f 22, f 23, f 24, undef, undef, undef, undef, undef, undef, undef, undef, undef], []⟩) ∧ In w0.heap.size w0 w ∧ Blk w g0 23 #[.int .i64 a0_0, .int .i64 a0_1, .int .i64 a0_2] ∧ Blk w g1 23 #[.int .i64 a1_0, .int .i64 a1_1, .int .i64 a1_2] ∧ Blk w g5 24 #[.int .i64 r0, .int .i64 r1, .int .i64 r2]
def JFb (B : Nat) (a0_0 a0_1 a0_2 a1_0 a1_1 a1_2 r0 r1 r2 : Int) (e1 : Bool) : Nat → Act → World → Prop
  | 0, a, _ => a.tmps[18]? = some (.agg #[.int .i64 a0_0, .int .i64 a0_1, .int .i64 a0_2])
  | 1, a, _ => a.tmps[19]? = some (.agg #[.int .i64 a0_0, .int .i64 a0_1, .int .i64 a0_2])
  | 2, a, _ => a.tmps[20]? = some (.agg #[.int .i64 a1_0, .int .i64 a1_1, .int .i64 a1_2])
  | 3, a, _ => a.tmps[21]? = some (.agg #[.int .i64 a1_0, .int .i64 a1_1, .int .i64 a1_2])
  | 4, a, _ => a.tmps[22]? = some (.tuple #[.agg #[.int .i64 r0, .int .i64 r1, .int .i64 r2], .bool e1])
  | 5, a, _ => a.tmps[17]? = some (.tuple #[.agg #[.int .i64 r0, .int .i64 r1, .int .i64 r2], .bool e1])
  | 6, a, _ => a.tmps[23]? = some (.agg #[.int .i64 r0, .int .i64 r1, .int .i64 r2])
  | 7, a, _ => a.tmps[24]? = some (.bool e1)
  | 8, a, w => ∃ g x0 x1 x2, B ≤ g ∧ a.tmps[7]? = some (.pointer (some ⟨g, 0, none⟩)) ∧ Blk w g 24 #[x0, x1, x2]
  | 9, a, w => ∃ g, B ≤ g ∧ a.tmps[7]? = some (.pointer (some ⟨g, 0, none⟩)) ∧ Blk w g 24 #[.int .i64 r0, .int .i64 r1, .int .i64 r2]
  | 10, a, _ => a.tmps[8]? = some (.bool e1)
  | _, _, _ => True
set_option maxHeartbeats 2000000 in
theorem walk_FnExactAddCosts (a0_0 : Int) (u0_0 : (Lit.int .i64 a0_0).wf = true) (a0_1 : Int) (u0_1 : (Lit.int .i64 a0_1).wf = true) (a0_2 : Int) (u0_2 : (Lit.int .i64 a0_2).wf = true) (a1_0 : Int) (u1_0 : (Lit.int .i64 a1_0).wf = true) (a1_1 : Int) (u1_1 : (Lit.int .i64 a1_1).wf = true) (a1_2 : Int) (u1_2 : (Lit.int .i64 a1_2).wf = true) (w : World) :
    Calls Try.prog 3 #[.agg #[.int .i64 a0_0, .int .i64 a0_1, .int .i64 a0_2], .agg #[.int .i64 a1_0, .int .i64 a1_1, .int .i64 a1_2]] w fun e w' => e = .returned (.bool true) ∧ Below w.heap.size w w' := by
  clear u0_0 u0_1 u0_2 u1_0 u1_1 u1_2
  obtain ⟨r0, r1, r2, e1, hv⟩ : ∃ r0 r1 r2 e1, addV a0_0 a0_1 a0_2 a1_0 a1_1 a1_2 = .tuple #[.agg #[.int .i64 r0, .int .i64 r1, .int .i64 r2], .bool e1] := by
    unfold addV
    split
    all_goals exact ⟨_, _, _, _, rfl⟩
  have HSJ := Lib.hid (fun W => hv ▸ sAddCosts a0_0 a0_1 a0_2 a1_0 a1_1 a1_2 W)
  have HIJ := Lib.hid (fun W => hv ▸ iAddCosts a0_0 a0_1 a0_2 a1_0 a1_1 a1_2 W)
  clear hv
  have q0 : Blk ((w.alloc (.cells #[.int .i64 a0_0, .int .i64 a0_1, .int .i64 a0_2] 23)).alloc (.cells #[.int .i64 a1_0, .int .i64 a1_1, .int .i64 a1_2] 23)) w.heap.size 23 #[.int .i64 a0_0, .int .i64 a0_1, .int .i64 a0_2] := (Blk.new w _ _).alloc _
  have q1 : Blk ((w.alloc (.cells #[.int .i64 a0_0, .int .i64 a0_1, .int .i64 a0_2] 23)).alloc (.cells #[.int .i64 a1_0, .int .i64 a1_1, .int .i64 a1_2] 23)) (w.heap.size + 1) 23 #[.int .i64 a1_0, .int .i64 a1_1, .int .i64 a1_2] := Blk.new' (by simp)
  have i0 : In w.heap.size w ((w.alloc (.cells #[.int .i64 a0_0, .int .i64 a0_1, .int .i64 a0_2] 23)).alloc (.cells #[.int .i64 a1_0, .int .i64 a1_1, .int .i64 a1_2] 23)) := by (repeat (first | exact In.refl _ | assumption | apply In.alloc | apply In.drewN | apply In.drew | (refine In.step ?_ (by assumption))))
  have HI0 := Lib.hid i0
  clear i0
  go_enter Try.func3, Try.ntmps3
  go_wp2_with fail
  generalize ((w.alloc (.cells #[.int .i64 a0_0, .int .i64 a0_1, .int .i64 a0_2] 23)).alloc (.cells #[.int .i64 a1_0, .int .i64 a1_1, .int .i64 a1_2] 23)) = w0 at *
  generalize w.heap.size + 1 = g1 at *
  obtain ⟨g0, hg0⟩ : ∃ g0, g0 = w.heap.size := ⟨_, rfl⟩
  rw [← hg0] at q0 ⊢
  clear hg0
  have hla0 := q0.lt
  have hla1 := q1.lt
  obtain ⟨B, hB⟩ : ∃ B, B = w0.heap.size := ⟨_, rfl⟩
  have hBwa : B ≤ w0.heap.size := by omega
  have hwBa : w0.heap.size ≤ B := by omega
  clear hB
  refine wp_region_facts (JIa w0 g0 g1 a0_0 a0_1 a0_2 a1_0 a1_1 a1_2) (JFa B a0_0 a0_1 a0_2 a1_0 a1_1 a1_2 r0 r1 r2 e1) (by kernel_rfl) (by kernel_rfl) ⟨⟨fun _ => undef, rfl⟩, (In.refl _).drew, q0.drew, q1.drew⟩ ?_ ?_
  · intro a w1 i o ho hI haf
    obtain ⟨⟨f, rfl⟩, hin, k0, k1⟩ := hI
    have d00 := k0.cell 0
    have d10 := k1.cell 0
    have d01 := k0.cell 1
    have d11 := k1.cell 1
    have d02 := k0.cell 2
    have d12 := k1.cell 2
    have hi : i < 11 := by
      rcases Nat.lt_or_ge i 11 with h | h
      · exact h
      · simp [h] at ho
    suffices H : ∀ K : Act → World → Prop, (∀ a' w', ((JIa w0 g0 g1 a0_0 a0_1 a0_2 a1_0 a1_1 a1_2) a' w' ∧ (JFa B a0_0 a0_1 a0_2 a1_0 a1_1 a1_2 r0 r1 r2 e1) i a' w' ∧ ∀ j, j ≠ i → waitsB _ j i = false → (JFa B a0_0 a0_1 a0_2 a1_0 a1_1 a1_2 r0 r1 r2 e1) j ⟨#[.agg #[.int .i64 a0_0, .int .i64 a0_1, .int .i64 a0_2], .agg #[.int .i64 a1_0, .int .i64 a1_1, .int .i64 a1_2], .pointer (some ⟨g0, 0, none⟩), .pointer (some ⟨g1, 0, none⟩), .bool false, f 5, f 6, undef, undef, f 9, f 10, f 11, f 12, f 13, f 14, f 15, f 16, undef, undef, undef, undef, undef, undef, undef, undef, undef, undef, undef, undef, undef, undef, undef, undef, undef], []⟩ w1 → (JFa B a0_0 a0_1 a0_2 a1_0 a1_1 a1_2 r0 r1 r2 e1) j a' w') → K a' w') → wpOp _ _ _ i K ⟨#[.agg #[.int .i64 a0_0, .int .i64 a0_1, .int .i64 a0_2], .agg #[.int .i64 a1_0, .int .i64 a1_1, .int .i64 a1_2], .pointer (some ⟨g0, 0, none⟩), .pointer (some ⟨g1, 0, none⟩), .bool false, f 5, f 6, undef, undef, f 9, f 10, f 11, f 12, f 13, f 14, f 15, f 16, undef, undef, undef, undef, undef, undef, undef, undef, undef, undef, undef, undef, undef, undef, undef, undef, undef], []⟩ w1 from H _ fun _ _ h => h
    intro K hK
    rcases (by omega : i = 0 ∨ i = 1 ∨ i = 2 ∨ i = 3 ∨ i = 4 ∨ i = 5 ∨ i = 6 ∨ i = 7 ∨ i = 8 ∨ i = 9 ∨ i = 10) with rfl | rfl | rfl | rfl | rfl | rfl | rfl | rfl | rfl | rfl | rfl
    · obtain rfl := Option.some.inj ho
      refine wpOp_plain rfl rfl ?_
      unfold Oper.wp
      go_simp
      exact hK _ _ ⟨⟨⟨updf (f) 10 (.agg #[.int .i64 a0_0, .int .i64 a0_1, .int .i64 a0_2]), rfl⟩, hin, k0, k1⟩, rfl, fun j hj hw hf => by
        rcases j with _ | _ | _ | _ | _ | _ | _ | _ | _ | _ | _ | j
        all_goals first | exact absurd rfl hj | exact hf | rfl⟩
    · obtain rfl := Option.some.inj ho
      have f0 := haf { on := 0, ground := .data } (by simp) rfl
      have f0 : _ = _ := Option.some.inj f0
      refine wpOp_plain rfl rfl ?_
      unfold Oper.wp
      go_simp
      refine (toCost_c a0_0 a0_1 a0_2 _).mono ?_
      rintro _ w2 ⟨rfl, hb2⟩
      exact hK _ _ ⟨⟨⟨updf (f) 11 (.agg #[.int .i64 a0_0, .int .i64 a0_1, .int .i64 a0_2]), rfl⟩, hin.step hb2, k0.step hb2, k1.step hb2⟩, rfl, fun j hj hw hf => by
        rcases j with _ | _ | _ | _ | _ | _ | _ | _ | _ | _ | _ | j
        all_goals first | exact absurd rfl hj | exact hf | rfl | (obtain ⟨g, x0, x1, x2, h1, h2, h3⟩ := hf; exact ⟨g, x0, x1, x2, h1, h2, h3.step hb2⟩) | (obtain ⟨g, h1, h2, h3⟩ := hf; exact ⟨g, h1, h2, h3.step hb2⟩)⟩
    · obtain rfl := Option.some.inj ho
      refine wpOp_plain rfl rfl ?_
      unfold Oper.wp
      go_simp
      exact hK _ _ ⟨⟨⟨updf (f) 12 (.agg #[.int .i64 a1_0, .int .i64 a1_1, .int .i64 a1_2]), rfl⟩, hin, k0, k1⟩, rfl, fun j hj hw hf => by
        rcases j with _ | _ | _ | _ | _ | _ | _ | _ | _ | _ | _ | j
        all_goals first | exact absurd rfl hj | exact hf | rfl⟩
    · obtain rfl := Option.some.inj ho
      have f2 := haf { on := 2, ground := .data } (by simp) rfl
      have f2 : _ = _ := Option.some.inj f2
      refine wpOp_plain rfl rfl ?_
      unfold Oper.wp
      go_simp
      refine (toCost_c a1_0 a1_1 a1_2 _).mono ?_
      rintro _ w2 ⟨rfl, hb2⟩
      exact hK _ _ ⟨⟨⟨updf (f) 13 (.agg #[.int .i64 a1_0, .int .i64 a1_1, .int .i64 a1_2]), rfl⟩, hin.step hb2, k0.step hb2, k1.step hb2⟩, rfl, fun j hj hw hf => by
        rcases j with _ | _ | _ | _ | _ | _ | _ | _ | _ | _ | _ | j
        all_goals first | exact absurd rfl hj | exact hf | rfl | (obtain ⟨g, x0, x1, x2, h1, h2, h3⟩ := hf; exact ⟨g, x0, x1, x2, h1, h2, h3.step hb2⟩) | (obtain ⟨g, h1, h2, h3⟩ := hf; exact ⟨g, h1, h2, h3.step hb2⟩)⟩
    · obtain rfl := Option.some.inj ho
      have f1 := haf { on := 1, ground := .data } (by simp) rfl
      have f1 : _ = _ := Option.some.inj f1
      have f3 := haf { on := 3, ground := .data } (by simp) rfl
      have f3 : _ = _ := Option.some.inj f3
      refine wpOp_plain rfl rfl ?_
      unfold Oper.wp
      go_simp
      refine (HSJ.out _).mono ?_
      rintro _ w2 ⟨rfl, hb2⟩
      exact hK _ _ ⟨⟨⟨updf (f) 14 (.tuple #[.agg #[.int .i64 r0, .int .i64 r1, .int .i64 r2], .bool e1]), rfl⟩, hin.step hb2, k0.step hb2, k1.step hb2⟩, rfl, fun j hj hw hf => by
        rcases j with _ | _ | _ | _ | _ | _ | _ | _ | _ | _ | _ | j
        all_goals first | exact absurd rfl hj | exact hf | rfl | (obtain ⟨g, x0, x1, x2, h1, h2, h3⟩ := hf; exact ⟨g, x0, x1, x2, h1, h2, h3.step hb2⟩) | (obtain ⟨g, h1, h2, h3⟩ := hf; exact ⟨g, h1, h2, h3.step hb2⟩)⟩
    · obtain rfl := Option.some.inj ho
      refine wpOp_plain rfl rfl ?_
      unfold Oper.wp
      go_simp
      exact hK _ _ ⟨⟨⟨updf (f) 9 (f 14), rfl⟩, hin, k0, k1⟩, haf { on := 4, ground := .data } (by simp) rfl, fun j hj hw hf => by
        rcases j with _ | _ | _ | _ | _ | _ | _ | _ | _ | _ | _ | j
        all_goals first | exact absurd rfl hj | exact hf | rfl⟩
    · obtain rfl := Option.some.inj ho
      have f5 := haf { on := 5, ground := .data } (by simp) rfl
      have f5 : _ = _ := Option.some.inj f5
      refine wpOp_plain rfl rfl ?_
      unfold Oper.wp
      go_simp
      exact hK _ _ ⟨⟨⟨updf (f) 15 (.agg #[.int .i64 r0, .int .i64 r1, .int .i64 r2]), rfl⟩, hin, k0, k1⟩, rfl, fun j hj hw hf => by
        rcases j with _ | _ | _ | _ | _ | _ | _ | _ | _ | _ | _ | j
        all_goals first | exact absurd rfl hj | exact hf | rfl⟩
    · obtain rfl := Option.some.inj ho
      have f5 := haf { on := 5, ground := .data } (by simp) rfl
      have f5 : _ = _ := Option.some.inj f5
      refine wpOp_plain rfl rfl ?_
      unfold Oper.wp
      go_simp
      exact hK _ _ ⟨⟨⟨updf (f) 16 (.bool e1), rfl⟩, hin, k0, k1⟩, rfl, fun j hj hw hf => by
        rcases j with _ | _ | _ | _ | _ | _ | _ | _ | _ | _ | _ | j
        all_goals first | exact absurd rfl hj | exact hf | rfl⟩
    · obtain rfl := Option.some.inj ho
      refine wpOp_plain rfl rfl ?_
      unfold Oper.wp
      go_simp
      exact hK _ _ ⟨⟨⟨updf (f) 5 (.pointer (some ⟨w1.heap.size, 0, none⟩)), rfl⟩, hin.alloc _, k0.alloc _, k1.alloc _⟩, ⟨w1.heap.size, _, _, _, Nat.le_trans hBwa hin.size, rfl, Blk.new w1 _ _⟩, fun j hj hw hf => by
        rcases j with _ | _ | _ | _ | _ | _ | _ | _ | _ | _ | _ | j
        all_goals first | exact absurd rfl hj | exact hf | exact absurd (hw.symm.trans (show waitsB _ _ _ = true by kernel_rfl)) (by decide)⟩
    · obtain rfl := Option.some.inj ho
      obtain ⟨g, x0, x1, x2, hgB, hsl, hbk⟩ := haf { on := 8, ground := .data } (by simp) rfl
      have hsl : _ = _ := Option.some.inj hsl
      have f6 := haf { on := 6, ground := .data } (by simp) rfl
      have f6 : _ = _ := Option.some.inj f6
      have z0 := hbk.cell 0
      have y0 := hbk.frozen 0
      have z1 := hbk.cell 1
      have y1 := hbk.frozen 1
      have z2 := hbk.cell 2
      have y2 := hbk.frozen 2
      have hgw := Nat.le_trans hwBa hgB
      have hb2 : Below w0.heap.size w1 (((w1.setCell ⟨g, 0, none⟩ (.int .i64 r0)).setCell ⟨g, 1, none⟩ (.int .i64 r1)).setCell ⟨g, 2, none⟩ (.int .i64 r2)) := (((Below.refl _ _).setCell hgw _).setCell hgw _).setCell hgw _
      have HBK : Blk (((w1.setCell ⟨g, 0, none⟩ (.int .i64 r0)).setCell ⟨g, 1, none⟩ (.int .i64 r1)).setCell ⟨g, 2, none⟩ (.int .i64 r2)) g 24 #[.int .i64 r0, .int .i64 r1, .int .i64 r2] := ((hbk.set_ _ _).set_ _ _).set_ _ _
      refine wpOp_plain rfl rfl ?_
      unfold Oper.wp
      go_simp
      exact hK _ _ ⟨⟨⟨f, rfl⟩, hin.wide hb2, k0.below hb2 hla0, k1.below hb2 hla1⟩, ⟨g, hgB, congrArg some hsl, HBK⟩, fun j hj hw hf => by
        rcases j with _ | _ | _ | _ | _ | _ | _ | _ | _ | _ | _ | j
        all_goals first | exact absurd rfl hj | exact hf | rfl | exact ⟨g, _, _, _, hgB, congrArg some hsl, HBK⟩⟩
    · obtain rfl := Option.some.inj ho
      have f7 := haf { on := 7, ground := .data } (by simp) rfl
      have f7 : _ = _ := Option.some.inj f7
      refine wpOp_plain rfl rfl ?_
      unfold Oper.wp
      go_simp
      exact hK _ _ ⟨⟨⟨updf (f) 6 (.bool e1), rfl⟩, hin, k0, k1⟩, rfl, fun j hj hw hf => by
        rcases j with _ | _ | _ | _ | _ | _ | _ | _ | _ | _ | _ | j
        all_goals first | exact absurd rfl hj | exact hf | rfl⟩
  intro a w3 hI hF
  obtain ⟨⟨h, rfl⟩, i3, q30, q31⟩ := hI
  obtain ⟨g5, hBg5, hsg5, kg5⟩ := hF 9 (by decide)
  have hsg5 : h 5 = _ := Option.some.inj hsg5
  have heg5 : h 6 = _ := Option.some.inj (hF 10 (by decide))
  clear hF
  rw [hsg5, heg5]
  clear q0 q1
  have HI3 := Lib.hid i3
  clear i3
  go_wp2_with fail
  have hlb0 := q30.lt
  have hlb1 := q31.lt
  have hlb2 := kg5.lt
  obtain ⟨B3, hB3⟩ : ∃ B3, B3 = w3.heap.size := ⟨_, rfl⟩
  have hBwb : B3 ≤ w3.heap.size := by omega
  have hwBb : w3.heap.size ≤ B3 := by omega
  clear hB3
  refine wp_region_facts (JIb w3 g0 g1 a0_0 a0_1 a0_2 a1_0 a1_1 a1_2 h g5 r0 r1 r2 e1) (JFb B3 a0_0 a0_1 a0_2 a1_0 a1_1 a1_2 r0 r1 r2 e1) (by kernel_rfl) (by kernel_rfl) ⟨⟨fun _ => undef, rfl⟩, (In.refl _).drew, q30.drew, q31.drew, kg5.drew⟩ ?_ ?_
  · intro a w1 i o ho hI haf
    obtain ⟨⟨f, rfl⟩, hin, k0, k1, k2⟩ := hI
    have d00 := k0.cell 0
    have d10 := k1.cell 0
    have d01 := k0.cell 1
    have d11 := k1.cell 1
    have d02 := k0.cell 2
    have d12 := k1.cell 2
    have hi : i < 11 := by
      rcases Nat.lt_or_ge i 11 with h | h
      · exact h
      · simp [h] at ho
    suffices H : ∀ K : Act → World → Prop, (∀ a' w', ((JIb w3 g0 g1 a0_0 a0_1 a0_2 a1_0 a1_1 a1_2 h g5 r0 r1 r2 e1) a' w' ∧ (JFb B3 a0_0 a0_1 a0_2 a1_0 a1_1 a1_2 r0 r1 r2 e1) i a' w' ∧ ∀ j, j ≠ i → waitsB _ j i = false → (JFb B3 a0_0 a0_1 a0_2 a1_0 a1_1 a1_2 r0 r1 r2 e1) j ⟨#[.agg #[.int .i64 a0_0, .int .i64 a0_1, .int .i64 a0_2], .agg #[.int .i64 a1_0, .int .i64 a1_1, .int .i64 a1_2], .pointer (some ⟨g0, 0, none⟩), .pointer (some ⟨g1, 0, none⟩), .bool false, .pointer (some ⟨g5, 0, none⟩), .bool e1, f 7, f 8, h 9, h 10, h 11, h 12, h 13, h 14, h 15, h 16, f 17, f 18, f 19, f 20, f 21, f 22, f 23, f 24, undef, undef, undef, undef, undef, undef, undef, undef, undef], []⟩ w1 → (JFb B3 a0_0 a0_1 a0_2 a1_0 a1_1 a1_2 r0 r1 r2 e1) j a' w') → K a' w') → wpOp _ _ _ i K ⟨#[.agg #[.int .i64 a0_0, .int .i64 a0_1, .int .i64 a0_2], .agg #[.int .i64 a1_0, .int .i64 a1_1, .int .i64 a1_2], .pointer (some ⟨g0, 0, none⟩), .pointer (some ⟨g1, 0, none⟩), .bool false, .pointer (some ⟨g5, 0, none⟩), .bool e1, f 7, f 8, h 9, h 10, h 11, h 12, h 13, h 14, h 15, h 16, f 17, f 18, f 19, f 20, f 21, f 22, f 23, f 24, undef, undef, undef, undef, undef, undef, undef, undef, undef], []⟩ w1 from H _ fun _ _ h => h
    intro K hK
    rcases (by omega : i = 0 ∨ i = 1 ∨ i = 2 ∨ i = 3 ∨ i = 4 ∨ i = 5 ∨ i = 6 ∨ i = 7 ∨ i = 8 ∨ i = 9 ∨ i = 10) with rfl | rfl | rfl | rfl | rfl | rfl | rfl | rfl | rfl | rfl | rfl
    · obtain rfl := Option.some.inj ho
      refine wpOp_plain rfl rfl ?_
      unfold Oper.wp
      go_simp
      exact hK _ _ ⟨⟨⟨updf (f) 18 (.agg #[.int .i64 a0_0, .int .i64 a0_1, .int .i64 a0_2]), rfl⟩, hin, k0, k1, k2⟩, rfl, fun j hj hw hf => by
        rcases j with _ | _ | _ | _ | _ | _ | _ | _ | _ | _ | _ | j
        all_goals first | exact absurd rfl hj | exact hf | rfl⟩
    · obtain rfl := Option.some.inj ho
      have f0 := haf { on := 0, ground := .data } (by simp) rfl
      have f0 : _ = _ := Option.some.inj f0
      refine wpOp_plain rfl rfl ?_
      unfold Oper.wp
      go_simp
      refine (toCost_c a0_0 a0_1 a0_2 _).mono ?_
      rintro _ w2 ⟨rfl, hb2⟩
      exact hK _ _ ⟨⟨⟨updf (f) 19 (.agg #[.int .i64 a0_0, .int .i64 a0_1, .int .i64 a0_2]), rfl⟩, hin.step hb2, k0.step hb2, k1.step hb2, k2.step hb2⟩, rfl, fun j hj hw hf => by
        rcases j with _ | _ | _ | _ | _ | _ | _ | _ | _ | _ | _ | j
        all_goals first | exact absurd rfl hj | exact hf | rfl | (obtain ⟨g, x0, x1, x2, h1, h2, h3⟩ := hf; exact ⟨g, x0, x1, x2, h1, h2, h3.step hb2⟩) | (obtain ⟨g, h1, h2, h3⟩ := hf; exact ⟨g, h1, h2, h3.step hb2⟩)⟩
    · obtain rfl := Option.some.inj ho
      refine wpOp_plain rfl rfl ?_
      unfold Oper.wp
      go_simp
      exact hK _ _ ⟨⟨⟨updf (f) 20 (.agg #[.int .i64 a1_0, .int .i64 a1_1, .int .i64 a1_2]), rfl⟩, hin, k0, k1, k2⟩, rfl, fun j hj hw hf => by
        rcases j with _ | _ | _ | _ | _ | _ | _ | _ | _ | _ | _ | j
        all_goals first | exact absurd rfl hj | exact hf | rfl⟩
    · obtain rfl := Option.some.inj ho
      have f2 := haf { on := 2, ground := .data } (by simp) rfl
      have f2 : _ = _ := Option.some.inj f2
      refine wpOp_plain rfl rfl ?_
      unfold Oper.wp
      go_simp
      refine (toCost_c a1_0 a1_1 a1_2 _).mono ?_
      rintro _ w2 ⟨rfl, hb2⟩
      exact hK _ _ ⟨⟨⟨updf (f) 21 (.agg #[.int .i64 a1_0, .int .i64 a1_1, .int .i64 a1_2]), rfl⟩, hin.step hb2, k0.step hb2, k1.step hb2, k2.step hb2⟩, rfl, fun j hj hw hf => by
        rcases j with _ | _ | _ | _ | _ | _ | _ | _ | _ | _ | _ | j
        all_goals first | exact absurd rfl hj | exact hf | rfl | (obtain ⟨g, x0, x1, x2, h1, h2, h3⟩ := hf; exact ⟨g, x0, x1, x2, h1, h2, h3.step hb2⟩) | (obtain ⟨g, h1, h2, h3⟩ := hf; exact ⟨g, h1, h2, h3.step hb2⟩)⟩
    · obtain rfl := Option.some.inj ho
      have f1 := haf { on := 1, ground := .data } (by simp) rfl
      have f1 : _ = _ := Option.some.inj f1
      have f3 := haf { on := 3, ground := .data } (by simp) rfl
      have f3 : _ = _ := Option.some.inj f3
      refine wpOp_plain rfl rfl ?_
      unfold Oper.wp
      go_simp
      refine (HIJ.out _).mono ?_
      rintro _ w2 ⟨rfl, hb2⟩
      exact hK _ _ ⟨⟨⟨updf (f) 22 (.tuple #[.agg #[.int .i64 r0, .int .i64 r1, .int .i64 r2], .bool e1]), rfl⟩, hin.step hb2, k0.step hb2, k1.step hb2, k2.step hb2⟩, rfl, fun j hj hw hf => by
        rcases j with _ | _ | _ | _ | _ | _ | _ | _ | _ | _ | _ | j
        all_goals first | exact absurd rfl hj | exact hf | rfl | (obtain ⟨g, x0, x1, x2, h1, h2, h3⟩ := hf; exact ⟨g, x0, x1, x2, h1, h2, h3.step hb2⟩) | (obtain ⟨g, h1, h2, h3⟩ := hf; exact ⟨g, h1, h2, h3.step hb2⟩)⟩
    · obtain rfl := Option.some.inj ho
      refine wpOp_plain rfl rfl ?_
      unfold Oper.wp
      go_simp
      exact hK _ _ ⟨⟨⟨updf (f) 17 (f 22), rfl⟩, hin, k0, k1, k2⟩, haf { on := 4, ground := .data } (by simp) rfl, fun j hj hw hf => by
        rcases j with _ | _ | _ | _ | _ | _ | _ | _ | _ | _ | _ | j
        all_goals first | exact absurd rfl hj | exact hf | rfl⟩
    · obtain rfl := Option.some.inj ho
      have f5 := haf { on := 5, ground := .data } (by simp) rfl
      have f5 : _ = _ := Option.some.inj f5
      refine wpOp_plain rfl rfl ?_
      unfold Oper.wp
      go_simp
      exact hK _ _ ⟨⟨⟨updf (f) 23 (.agg #[.int .i64 r0, .int .i64 r1, .int .i64 r2]), rfl⟩, hin, k0, k1, k2⟩, rfl, fun j hj hw hf => by
        rcases j with _ | _ | _ | _ | _ | _ | _ | _ | _ | _ | _ | j
        all_goals first | exact absurd rfl hj | exact hf | rfl⟩
    · obtain rfl := Option.some.inj ho
      have f5 := haf { on := 5, ground := .data } (by simp) rfl
      have f5 : _ = _ := Option.some.inj f5
      refine wpOp_plain rfl rfl ?_
      unfold Oper.wp
      go_simp
      exact hK _ _ ⟨⟨⟨updf (f) 24 (.bool e1), rfl⟩, hin, k0, k1, k2⟩, rfl, fun j hj hw hf => by
        rcases j with _ | _ | _ | _ | _ | _ | _ | _ | _ | _ | _ | j
        all_goals first | exact absurd rfl hj | exact hf | rfl⟩
    · obtain rfl := Option.some.inj ho
      refine wpOp_plain rfl rfl ?_
      unfold Oper.wp
      go_simp
      exact hK _ _ ⟨⟨⟨updf (f) 7 (.pointer (some ⟨w1.heap.size, 0, none⟩)), rfl⟩, hin.alloc _, k0.alloc _, k1.alloc _, k2.alloc _⟩, ⟨w1.heap.size, _, _, _, Nat.le_trans hBwb hin.size, rfl, Blk.new w1 _ _⟩, fun j hj hw hf => by
        rcases j with _ | _ | _ | _ | _ | _ | _ | _ | _ | _ | _ | j
        all_goals first | exact absurd rfl hj | exact hf | exact absurd (hw.symm.trans (show waitsB _ _ _ = true by kernel_rfl)) (by decide)⟩
    · obtain rfl := Option.some.inj ho
      obtain ⟨g, x0, x1, x2, hgB, hsl, hbk⟩ := haf { on := 8, ground := .data } (by simp) rfl
      have hsl : _ = _ := Option.some.inj hsl
      have f6 := haf { on := 6, ground := .data } (by simp) rfl
      have f6 : _ = _ := Option.some.inj f6
      have z0 := hbk.cell 0
      have y0 := hbk.frozen 0
      have z1 := hbk.cell 1
      have y1 := hbk.frozen 1
      have z2 := hbk.cell 2
      have y2 := hbk.frozen 2
      have hgw := Nat.le_trans hwBb hgB
      have hb2 : Below w3.heap.size w1 (((w1.setCell ⟨g, 0, none⟩ (.int .i64 r0)).setCell ⟨g, 1, none⟩ (.int .i64 r1)).setCell ⟨g, 2, none⟩ (.int .i64 r2)) := (((Below.refl _ _).setCell hgw _).setCell hgw _).setCell hgw _
      have HBK : Blk (((w1.setCell ⟨g, 0, none⟩ (.int .i64 r0)).setCell ⟨g, 1, none⟩ (.int .i64 r1)).setCell ⟨g, 2, none⟩ (.int .i64 r2)) g 24 #[.int .i64 r0, .int .i64 r1, .int .i64 r2] := ((hbk.set_ _ _).set_ _ _).set_ _ _
      refine wpOp_plain rfl rfl ?_
      unfold Oper.wp
      go_simp
      exact hK _ _ ⟨⟨⟨f, rfl⟩, hin.wide hb2, k0.below hb2 hlb0, k1.below hb2 hlb1, k2.below hb2 hlb2⟩, ⟨g, hgB, congrArg some hsl, HBK⟩, fun j hj hw hf => by
        rcases j with _ | _ | _ | _ | _ | _ | _ | _ | _ | _ | _ | j
        all_goals first | exact absurd rfl hj | exact hf | rfl | exact ⟨g, _, _, _, hgB, congrArg some hsl, HBK⟩⟩
    · obtain rfl := Option.some.inj ho
      have f7 := haf { on := 7, ground := .data } (by simp) rfl
      have f7 : _ = _ := Option.some.inj f7
      refine wpOp_plain rfl rfl ?_
      unfold Oper.wp
      go_simp
      exact hK _ _ ⟨⟨⟨updf (f) 8 (.bool e1), rfl⟩, hin, k0, k1, k2⟩, rfl, fun j hj hw hf => by
        rcases j with _ | _ | _ | _ | _ | _ | _ | _ | _ | _ | _ | j
        all_goals first | exact absurd rfl hj | exact hf | rfl⟩
  intro a w4 hI hF
  obtain ⟨⟨h2, rfl⟩, i4, q40, q41, q42⟩ := hI
  obtain ⟨g7, hBg7, hsg7, kg7⟩ := hF 9 (by decide)
  have hsg7 : h2 7 = _ := Option.some.inj hsg7
  have heg7 : h2 8 = _ := Option.some.inj (hF 10 (by decide))
  clear hF
  rw [hsg7, heg7]
  have c50 := q42.cell 0
  have c70 := kg7.cell 0
  have c51 := q42.cell 1
  have c71 := kg7.cell 1
  have c52 := q42.cell 2
  have c72 := kg7.cell 2
  clear q30 q31 kg5
  go_wp2_with fail
  refine (eqCost_c _ _ _ _).mono ?_
  rintro _ w5 ⟨rfl, hb5⟩
  go_wp2
  go_ret
  exact ⟨rfl, (HI0.out.trans (HI3.out.trans (i4.step hb5))).below⟩
end Go.Proofs.Ytjocigbacigaiab
