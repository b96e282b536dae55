/- Structs that come in: Bakery. -/
import Derived.Test.YtmlemplkbkgjfaaOpBook
namespace Go.Proofs.Ytmlemplkbkgjfaa
open Go.ChangeShapes Go.WideShapes Go.ChangeAt Go.RowKit
set_option linter.unusedVariables false
set_option linter.unusedSimpArgs false
set_option maxHeartbeats 2000000

theorem cells_Dough {H : Type} {enc : TypeId × Value → H} {w : World} {base : Nat} {held : Bool} {fuel : Nat} {k0 k1 k2 : Value} {o : Option (DataW H × List MemPlace)} (h : DataW.trod enc Try.prog w base (fun _ => true) held fuel 66 [k0, k1, k2] = o) (ho : o.isSome = true) :
    ∃ (a0 : Int) (a1 : Int) (a2 : Int), k0 = .int .i64 a0 ∧ k1 = .int .i64 a1 ∧ k2 = .int .i64 a2 ∧ (Lit.int .i64 a0).wf = true ∧ (Lit.int .i64 a1).wf = true ∧ (Lit.int .i64 a2).wf = true := by
  obtain ⟨y, hy⟩ := Option.isSome_iff_exists.1 ho
  rw [hy] at h
  obtain ⟨xs, m, _, _, _, hlen, hf⟩ := DataW.trod_struct Try.underlying66 h
  have hc0 : Try.prog.cellsOf 3 = 1 := by kernel_rfl
  have hs : ∀ i, i < 3 → (xs[i]?).isSome = true := fun i hi => by
    have : i < xs.length := by rw [hlen]; exact hi
    simp [this]
  have h0 : DataW.trod enc Try.prog w base (fun _ => true) held m 3 (List.take (Try.prog.cellsOf 3) (List.drop 0 [k0, k1, k2])) = xs[0]? := hf 0 _ rfl
  simp only [hc0, List.drop_zero, List.drop_succ_cons, List.take_succ_cons, List.take_zero] at h0
  obtain ⟨a0, e0, u0⟩ := int_cell h0 (hs 0 (by decide))
  have h1 : DataW.trod enc Try.prog w base (fun _ => true) held m 3 (List.take (Try.prog.cellsOf 3) (List.drop 1 [k0, k1, k2])) = xs[1]? := hf 1 _ rfl
  simp only [hc0, List.drop_zero, List.drop_succ_cons, List.take_succ_cons, List.take_zero] at h1
  obtain ⟨a1, e1, u1⟩ := int_cell h1 (hs 1 (by decide))
  have h2 : DataW.trod enc Try.prog w base (fun _ => true) held m 3 (List.take (Try.prog.cellsOf 3) (List.drop 2 [k0, k1, k2])) = xs[2]? := hf 2 _ rfl
  simp only [hc0, List.drop_zero, List.drop_succ_cons, List.take_succ_cons, List.take_zero] at h2
  obtain ⟨a2, e2, u2⟩ := int_cell h2 (hs 2 (by decide))
  exact ⟨a0, a1, a2, e0, e1, e2, u0, u1, u2⟩
theorem cells_Loaf {H : Type} {enc : TypeId × Value → H} {w : World} {base : Nat} {held : Bool} {fuel : Nat} {k0 k1 : Value} {o : Option (DataW H × List MemPlace)} (h : DataW.trod enc Try.prog w base (fun _ => true) held fuel 68 [k0, k1] = o) (ho : o.isSome = true) :
    ∃ (a0 : Int) (a1 : Int), k0 = .int .i64 a0 ∧ k1 = .int .i64 a1 ∧ (Lit.int .i64 a0).wf = true ∧ (Lit.int .i64 a1).wf = true := by
  obtain ⟨y, hy⟩ := Option.isSome_iff_exists.1 ho
  rw [hy] at h
  obtain ⟨xs, m, _, _, _, hlen, hf⟩ := DataW.trod_struct Try.underlying68 h
  have hc0 : Try.prog.cellsOf 3 = 1 := by kernel_rfl
  have hs : ∀ i, i < 2 → (xs[i]?).isSome = true := fun i hi => by
    have : i < xs.length := by rw [hlen]; exact hi
    simp [this]
  have h0 : DataW.trod enc Try.prog w base (fun _ => true) held m 3 (List.take (Try.prog.cellsOf 3) (List.drop 0 [k0, k1])) = xs[0]? := hf 0 _ rfl
  simp only [hc0, List.drop_zero, List.drop_succ_cons, List.take_succ_cons, List.take_zero] at h0
  obtain ⟨a0, e0, u0⟩ := int_cell h0 (hs 0 (by decide))
  have h1 : DataW.trod enc Try.prog w base (fun _ => true) held m 3 (List.take (Try.prog.cellsOf 3) (List.drop 1 [k0, k1])) = xs[1]? := hf 1 _ rfl
  simp only [hc0, List.drop_zero, List.drop_succ_cons, List.take_succ_cons, List.take_zero] at h1
  obtain ⟨a1, e1, u1⟩ := int_cell h1 (hs 1 (by decide))
  exact ⟨a0, a1, e0, e1, u0, u1⟩
theorem cells_Bakery {H : Type} {enc : TypeId × Value → H} {w : World} {base : Nat} {held : Bool} {fuel : Nat} {k0 k1 k2 k3 k4 k5 k6 k7 k8 k9 k10 k11 k12 k13 : Value} {o : Option (DataW H × List MemPlace)} (h : DataW.trod enc Try.prog w base (fun _ => true) held fuel 70 [k0, k1, k2, k3, k4, k5, k6, k7, k8, k9, k10, k11, k12, k13] = o) (ho : o.isSome = true) :
    ∃ (Ax : Option Addr) (nx cx : Nat) (zx : List Int) (a0 : Int) (a1 : Int) (a2 : Int) (a3 : Int) (a4 : Int) (Ay : Option Addr) (ny cy : Nat) (zy : List EventR) (a5 : Int) (a6 : Int) (a7 : Int) (a8 : Int) (a9 : Int) (a10 : Int) (a11 : Int), k0 = .slice Ax nx cx ∧ k1 = .int .i64 a0 ∧ k2 = .int .i64 a1 ∧ k3 = .int .i64 a2 ∧ k4 = .int .i64 a3 ∧ k5 = .int .i64 a4 ∧ k6 = .slice Ay ny cy ∧ k7 = .int .i64 a5 ∧ k8 = .int .i64 a6 ∧ k9 = .int .i64 a7 ∧ k10 = .int .i64 a8 ∧ k11 = .int .i64 a9 ∧ k12 = .int .i64 a10 ∧ k13 = .int .i64 a11 ∧ nx ≤ maxLen ∧ ReadsI w Ax nx zx ∧ (Lit.int .i64 a0).wf = true ∧ (Lit.int .i64 a1).wf = true ∧ (Lit.int .i64 a2).wf = true ∧ (Lit.int .i64 a3).wf = true ∧ (Lit.int .i64 a4).wf = true ∧ ny ≤ maxLen ∧ ReadsEvent w Ay ny zy ∧ (Lit.int .i64 a5).wf = true ∧ (Lit.int .i64 a6).wf = true ∧ (Lit.int .i64 a7).wf = true ∧ (Lit.int .i64 a8).wf = true ∧ (Lit.int .i64 a9).wf = true ∧ (Lit.int .i64 a10).wf = true ∧ (Lit.int .i64 a11).wf = true := by
  obtain ⟨y, hy⟩ := Option.isSome_iff_exists.1 ho
  rw [hy] at h
  obtain ⟨xs, m, _, _, _, hlen, hf⟩ := DataW.trod_struct Try.underlying70 h
  have hc0 : Try.prog.cellsOf 24 = 1 := by kernel_rfl
  have hc1 : Try.prog.cellsOf 66 = 3 := by kernel_rfl
  have hc2 : Try.prog.cellsOf 68 = 2 := by kernel_rfl
  have hc3 : Try.prog.cellsOf 45 = 7 := by kernel_rfl
  have hc4 : Try.prog.cellsOf 3 = 1 := by kernel_rfl
  have hs : ∀ i, i < 5 → (xs[i]?).isSome = true := fun i hi => by
    have : i < xs.length := by rw [hlen]; exact hi
    simp [this]
  have h0 : DataW.trod enc Try.prog w base (fun _ => true) held m 24 (List.take (Try.prog.cellsOf 24) (List.drop 0 [k0, k1, k2, k3, k4, k5, k6, k7, k8, k9, k10, k11, k12, k13])) = xs[0]? := hf 0 _ rfl
  simp only [hc0, hc1, hc2, hc3, hc4, List.drop_zero, List.drop_succ_cons, List.take_succ_cons, List.take_zero] at h0
  obtain ⟨Ax, nx, cx, zx, e0, mx, wx⟩ := cells_Stock h0 (hs 0 (by decide))
  have h1 : DataW.trod enc Try.prog w base (fun _ => true) held m 66 (List.take (Try.prog.cellsOf 66) (List.drop 1 [k0, k1, k2, k3, k4, k5, k6, k7, k8, k9, k10, k11, k12, k13])) = xs[1]? := hf 1 _ rfl
  simp only [hc0, hc1, hc2, hc3, hc4, List.drop_zero, List.drop_succ_cons, List.take_succ_cons, List.take_zero] at h1
  obtain ⟨a0, a1, a2, e1, e2, e3, u1, u2, u3⟩ := cells_Dough h1 (hs 1 (by decide))
  have h2 : DataW.trod enc Try.prog w base (fun _ => true) held m 68 (List.take (Try.prog.cellsOf 68) (List.drop 4 [k0, k1, k2, k3, k4, k5, k6, k7, k8, k9, k10, k11, k12, k13])) = xs[2]? := hf 2 _ rfl
  simp only [hc0, hc1, hc2, hc3, hc4, List.drop_zero, List.drop_succ_cons, List.take_succ_cons, List.take_zero] at h2
  obtain ⟨a3, a4, e4, e5, u4, u5⟩ := cells_Loaf h2 (hs 2 (by decide))
  have h3 : DataW.trod enc Try.prog w base (fun _ => true) held m 45 (List.take (Try.prog.cellsOf 45) (List.drop 6 [k0, k1, k2, k3, k4, k5, k6, k7, k8, k9, k10, k11, k12, k13])) = xs[3]? := hf 3 _ rfl
  simp only [hc0, hc1, hc2, hc3, hc4, List.drop_zero, List.drop_succ_cons, List.take_succ_cons, List.take_zero] at h3
  obtain ⟨Ay, ny, cy, zy, a5, a6, a7, a8, a9, a10, e6, e7, e8, e9, e10, e11, e12, my, wy, u7, u8, u9, u10, u11, u12⟩ := cells_Book h3 (hs 3 (by decide))
  have h4 : DataW.trod enc Try.prog w base (fun _ => true) held m 3 (List.take (Try.prog.cellsOf 3) (List.drop 13 [k0, k1, k2, k3, k4, k5, k6, k7, k8, k9, k10, k11, k12, k13])) = xs[4]? := hf 4 _ rfl
  simp only [hc0, hc1, hc2, hc3, hc4, List.drop_zero, List.drop_succ_cons, List.take_succ_cons, List.take_zero] at h4
  obtain ⟨a11, e13, u13⟩ := int_cell h4 (hs 4 (by decide))
  exact ⟨Ax, nx, cx, zx, a0, a1, a2, a3, a4, Ay, ny, cy, zy, a5, a6, a7, a8, a9, a10, a11, e0, e1, e2, e3, e4, e5, e6, e7, e8, e9, e10, e11, e12, e13, mx, wx, u1, u2, u3, u4, u5, my, wy, u7, u8, u9, u10, u11, u12, u13⟩
set_option maxRecDepth 100000 in
theorem openBakery {H : Type} {enc : TypeId × Value → H} {w : World} {base b0 : Nat} {held : Bool} {r : Reach} {v : Value} {d : DataW H} {p : List MemPlace} (hv : Value.okWide Try.prog w r b0 70 v) (h : DataW.Trod enc Try.prog w base (fun _ => true) held 70 v d p) :
    ∃ (Ax : Option Addr) (nx cx : Nat) (zx : List Int) (a0 : Int) (a1 : Int) (a2 : Int) (a3 : Int) (a4 : Int) (Ay : Option Addr) (ny cy : Nat) (zy : List EventR) (a5 : Int) (a6 : Int) (a7 : Int) (a8 : Int) (a9 : Int) (a10 : Int) (a11 : Int), v = .agg #[.slice Ax nx cx, .int .i64 a0, .int .i64 a1, .int .i64 a2, .int .i64 a3, .int .i64 a4, .slice Ay ny cy, .int .i64 a5, .int .i64 a6, .int .i64 a7, .int .i64 a8, .int .i64 a9, .int .i64 a10, .int .i64 a11] ∧ nx ≤ maxLen ∧ ReadsI w Ax nx zx ∧ (Lit.int .i64 a0).wf = true ∧ (Lit.int .i64 a1).wf = true ∧ (Lit.int .i64 a2).wf = true ∧ (Lit.int .i64 a3).wf = true ∧ (Lit.int .i64 a4).wf = true ∧ ny ≤ maxLen ∧ ReadsEvent w Ay ny zy ∧ (Lit.int .i64 a5).wf = true ∧ (Lit.int .i64 a6).wf = true ∧ (Lit.int .i64 a7).wf = true ∧ (Lit.int .i64 a8).wf = true ∧ (Lit.int .i64 a9).wf = true ∧ (Lit.int .i64 a10).wf = true ∧ (Lit.int .i64 a11).wf = true := by
  obtain ⟨cs, rfl, hsz⟩ := okWide_struct Try.underlying70 hv
  obtain ⟨fuel, hf⟩ := h
  have hC : Try.prog.cellsOf 70 = 14 := by kernel_rfl
  rw [hC] at hsz
  obtain ⟨l⟩ := cs
  have hl : l.length = 14 := by simpa using hsz
  obtain ⟨k0, l0, rfl, hl0⟩ := list_n l 13 hl
  obtain ⟨k1, l1, rfl, hl1⟩ := list_n l0 12 hl0
  obtain ⟨k2, l2, rfl, hl2⟩ := list_n l1 11 hl1
  obtain ⟨k3, l3, rfl, hl3⟩ := list_n l2 10 hl2
  obtain ⟨k4, l4, rfl, hl4⟩ := list_n l3 9 hl3
  obtain ⟨k5, l5, rfl, hl5⟩ := list_n l4 8 hl4
  obtain ⟨k6, l6, rfl, hl6⟩ := list_n l5 7 hl5
  obtain ⟨k7, l7, rfl, hl7⟩ := list_n l6 6 hl6
  obtain ⟨k8, l8, rfl, hl8⟩ := list_n l7 5 hl7
  obtain ⟨k9, l9, rfl, hl9⟩ := list_n l8 4 hl8
  obtain ⟨k10, l10, rfl, hl10⟩ := list_n l9 3 hl9
  obtain ⟨k11, l11, rfl, hl11⟩ := list_n l10 2 hl10
  obtain ⟨k12, l12, rfl, hl12⟩ := list_n l11 1 hl11
  obtain ⟨k13, l13, rfl, hl13⟩ := list_n l12 0 hl12
  obtain rfl := List.length_eq_zero_iff.1 hl13
  obtain ⟨Ax, nx, cx, zx, a0, a1, a2, a3, a4, Ay, ny, cy, zy, a5, a6, a7, a8, a9, a10, a11, e0, e1, e2, e3, e4, e5, e6, e7, e8, e9, e10, e11, e12, e13, mx, wx, u1, u2, u3, u4, u5, my, wy, u7, u8, u9, u10, u11, u12, u13⟩ := cells_Bakery (o := some (d, p)) (show DataW.trod enc Try.prog w base (fun _ => true) held fuel 70 [k0, k1, k2, k3, k4, k5, k6, k7, k8, k9, k10, k11, k12, k13] = some (d, p) from hf) rfl
  subst e0 e1 e2 e3 e4 e5 e6 e7 e8 e9 e10 e11 e12 e13
  exact ⟨Ax, nx, cx, zx, a0, a1, a2, a3, a4, Ay, ny, cy, zy, a5, a6, a7, a8, a9, a10, a11, rfl, mx, wx, u1, u2, u3, u4, u5, my, wy, u7, u8, u9, u10, u11, u12, u13⟩
end Go.Proofs.Ytmlemplkbkgjfaa
