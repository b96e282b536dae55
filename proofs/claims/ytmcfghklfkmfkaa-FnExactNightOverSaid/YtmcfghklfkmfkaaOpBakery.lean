import Derived.Test.YtmcfghklfkmfkaaOpen
import Derived.Test.YtmcfghklfkmfkaaSEvent
import Derived.Test.YtmcfghklfkmfkaaIntR
import Derived.Test.YtmcfghklfkmfkaaBase
import Derived.ChangeArms
import Derived.ProofKit
import Derived.OpenShut
/- Structs that come in: Stock, Book. -/
namespace Go.Proofs.Ytmcfghklfkmfkaa
open Go.ChangeShapes Go.WideShapes Go.ChangeAt Go.RowKit
set_option linter.unusedVariables false
set_option linter.unusedSimpArgs false
set_option maxHeartbeats 2000000

theorem list_n {α : Type} (l : List α) (n : Nat) (h : l.length = n + 1) : ∃ a t, l = a :: t ∧ t.length = n := by
  cases l with
  | nil => simp at h
  | cons a t => exact ⟨a, t, rfl, by simpa using h⟩
theorem int_cell {H : Type} {enc : TypeId × Value → H} {w : World} {base : Nat} {held : Bool} {fuel : Nat} {c : Value} {o : Option (DataW H × List MemPlace)} (h : DataW.trod enc Try.prog w base (fun _ => true) held fuel 3 [c] = o) (ho : o.isSome = true) : ∃ z, c = .int .i64 z ∧ (Lit.int .i64 z).wf = true := by
  obtain ⟨y, hy⟩ := Option.isSome_iff_exists.1 ho
  rw [hy] at h
  obtain ⟨z, e, _, u⟩ := DataW.trod_int Try.underlying3 h
  exact ⟨z, by simpa using e, u⟩
theorem slice_I {H : Type} {enc : TypeId × Value → H} {w : World} {base : Nat} {held : Bool} {fuel : Nat} {c : Value} {o : Option (DataW H × List MemPlace)} (h : DataW.trod enc Try.prog w base (fun _ => true) held fuel 22 [c] = o) (ho : o.isSome = true) : ∃ A n d zs, c = .slice A n d ∧ n ≤ maxLen ∧ ReadsI w A n zs := by
  obtain ⟨y, hy⟩ := Option.isSome_iff_exists.1 ho
  rw [hy] at h
  rcases open_ints Try.underlying22 Try.underlying3 (by kernel_rfl) h with ⟨hcs, _⟩ | ⟨x, l, c9, zs, hcs, _, hl, hm, hz, _, hcell, hwz⟩
  · simp at hcs
    subst hcs
    exact ⟨none, 0, 0, [], rfl, Nat.zero_le _, rfl, fun k hk => absurd hk (Nat.not_lt_zero _)⟩
  · simp at hcs
    subst hcs
    exact ⟨some x, l, c9, zs.take l, rfl, Nat.le_trans hl hm, reads_row (.inr ⟨x, rfl, hl, hm, by simpa using hz, hcell, hwz⟩)⟩
theorem slice_E {H : Type} {enc : TypeId × Value → H} {w : World} {base : Nat} {held : Bool} {fuel : Nat} {c : Value} {o : Option (DataW H × List MemPlace)} (h : DataW.trod enc Try.prog w base (fun _ => true) held fuel 29 [c] = o) (ho : o.isSome = true) : ∃ A n d zs, c = .slice A n d ∧ n ≤ maxLen ∧ ReadsEvent w A n zs := by
  obtain ⟨y, hy⟩ := Option.isSome_iff_exists.1 ho
  rw [hy] at h
  rcases DataW.trod_slice Try.underlying29 h with ⟨hcs, _⟩ | ⟨a, len, cap, elems, rest, n, _, hcs, _⟩
  · simp at hcs
    subst hcs
    obtain ⟨zs, hn, hr⟩ := openEvent (A := none) (n := 0) (c := 0) h
    exact ⟨none, 0, 0, zs, rfl, hn, hr⟩
  · simp at hcs
    subst hcs
    obtain ⟨zs, hn, hr⟩ := openEvent (A := some a) (n := len) (c := cap) h
    exact ⟨some a, len, cap, zs, rfl, hn, hr⟩
theorem cells_Rack {H : Type} {enc : TypeId × Value → H} {w : World} {base : Nat} {held : Bool} {fuel : Nat} {k0 k1 k2 : Value} {o : Option (DataW H × List MemPlace)} (h : DataW.trod enc Try.prog w base (fun _ => true) held fuel 31 [k0, k1, k2] = o) (ho : o.isSome = true) :
    ∃ (a0 : Int) (a1 : Int) (a2 : Int), k0 = .int .i64 a0 ∧ k1 = .int .i64 a1 ∧ k2 = .int .i64 a2 ∧ (Lit.int .i64 a0).wf = true ∧ (Lit.int .i64 a1).wf = true ∧ (Lit.int .i64 a2).wf = true := by
  obtain ⟨y, hy⟩ := Option.isSome_iff_exists.1 ho
  rw [hy] at h
  obtain ⟨xs, m, _, _, _, hlen, hf⟩ := DataW.trod_struct Try.underlying31 h
  have hc0 : Try.prog.cellsOf 3 = 1 := by kernel_rfl
  have hs : ∀ i, i < 3 → (xs[i]?).isSome = true := fun i hi => by
    have : i < xs.length := by rw [hlen]; exact hi
    simp [this]
  have h0 : DataW.trod enc Try.prog w base (fun _ => true) held m 3 (List.take (Try.prog.cellsOf 3) (List.drop 0 [k0, k1, k2])) = xs[0]? := hf 0 _ rfl
  simp only [hc0, List.drop_zero, List.drop_succ_cons, List.take_succ_cons, List.take_zero] at h0
  obtain ⟨a0, e0, u0⟩ := int_cell h0 (hs 0 (by decide))
  have h1 : DataW.trod enc Try.prog w base (fun _ => true) held m 3 (List.take (Try.prog.cellsOf 3) (List.drop 1 [k0, k1, k2])) = xs[1]? := hf 1 _ rfl
  simp only [hc0, List.drop_zero, List.drop_succ_cons, List.take_succ_cons, List.take_zero] at h1
  obtain ⟨a1, e1, u1⟩ := int_cell h1 (hs 1 (by decide))
  have h2 : DataW.trod enc Try.prog w base (fun _ => true) held m 3 (List.take (Try.prog.cellsOf 3) (List.drop 2 [k0, k1, k2])) = xs[2]? := hf 2 _ rfl
  simp only [hc0, List.drop_zero, List.drop_succ_cons, List.take_succ_cons, List.take_zero] at h2
  obtain ⟨a2, e2, u2⟩ := int_cell h2 (hs 2 (by decide))
  exact ⟨a0, a1, a2, e0, e1, e2, u0, u1, u2⟩
theorem cells_Stock {H : Type} {enc : TypeId × Value → H} {w : World} {base : Nat} {held : Bool} {fuel : Nat} {k0 : Value} {o : Option (DataW H × List MemPlace)} (h : DataW.trod enc Try.prog w base (fun _ => true) held fuel 24 [k0] = o) (ho : o.isSome = true) :
    ∃ (Ax : Option Addr) (nx cx : Nat) (zx : List Int), k0 = .slice Ax nx cx ∧ nx ≤ maxLen ∧ ReadsI w Ax nx zx := by
  obtain ⟨y, hy⟩ := Option.isSome_iff_exists.1 ho
  rw [hy] at h
  obtain ⟨xs, m, _, _, _, hlen, hf⟩ := DataW.trod_struct Try.underlying24 h
  have hc0 : Try.prog.cellsOf 22 = 1 := by kernel_rfl
  have hs : ∀ i, i < 1 → (xs[i]?).isSome = true := fun i hi => by
    have : i < xs.length := by rw [hlen]; exact hi
    simp [this]
  have h0 : DataW.trod enc Try.prog w base (fun _ => true) held m 22 (List.take (Try.prog.cellsOf 22) (List.drop 0 [k0])) = xs[0]? := hf 0 _ rfl
  simp only [hc0, List.drop_zero, List.drop_succ_cons, List.take_succ_cons, List.take_zero] at h0
  obtain ⟨Ax, nx, cx, zx, e0, mx, wx⟩ := slice_I h0 (hs 0 (by decide))
  exact ⟨Ax, nx, cx, zx, e0, mx, wx⟩
theorem cells_Book {H : Type} {enc : TypeId × Value → H} {w : World} {base : Nat} {held : Bool} {fuel : Nat} {k0 k1 k2 k3 k4 k5 k6 : Value} {o : Option (DataW H × List MemPlace)} (h : DataW.trod enc Try.prog w base (fun _ => true) held fuel 33 [k0, k1, k2, k3, k4, k5, k6] = o) (ho : o.isSome = true) :
    ∃ (Ax : Option Addr) (nx cx : Nat) (zx : List EventR) (a0 : Int) (a1 : Int) (a2 : Int) (a3 : Int) (a4 : Int) (a5 : Int), k0 = .slice Ax nx cx ∧ k1 = .int .i64 a0 ∧ k2 = .int .i64 a1 ∧ k3 = .int .i64 a2 ∧ k4 = .int .i64 a3 ∧ k5 = .int .i64 a4 ∧ k6 = .int .i64 a5 ∧ nx ≤ maxLen ∧ ReadsEvent w Ax nx zx ∧ (Lit.int .i64 a0).wf = true ∧ (Lit.int .i64 a1).wf = true ∧ (Lit.int .i64 a2).wf = true ∧ (Lit.int .i64 a3).wf = true ∧ (Lit.int .i64 a4).wf = true ∧ (Lit.int .i64 a5).wf = true := by
  obtain ⟨y, hy⟩ := Option.isSome_iff_exists.1 ho
  rw [hy] at h
  obtain ⟨xs, m, _, _, _, hlen, hf⟩ := DataW.trod_struct Try.underlying33 h
  have hc0 : Try.prog.cellsOf 29 = 1 := by kernel_rfl
  have hc1 : Try.prog.cellsOf 31 = 3 := by kernel_rfl
  have hc2 : Try.prog.cellsOf 3 = 1 := by kernel_rfl
  have hs : ∀ i, i < 5 → (xs[i]?).isSome = true := fun i hi => by
    have : i < xs.length := by rw [hlen]; exact hi
    simp [this]
  have h0 : DataW.trod enc Try.prog w base (fun _ => true) held m 29 (List.take (Try.prog.cellsOf 29) (List.drop 0 [k0, k1, k2, k3, k4, k5, k6])) = xs[0]? := hf 0 _ rfl
  simp only [hc0, hc1, hc2, List.drop_zero, List.drop_succ_cons, List.take_succ_cons, List.take_zero] at h0
  obtain ⟨Ax, nx, cx, zx, e0, mx, wx⟩ := slice_E h0 (hs 0 (by decide))
  have h1 : DataW.trod enc Try.prog w base (fun _ => true) held m 31 (List.take (Try.prog.cellsOf 31) (List.drop 1 [k0, k1, k2, k3, k4, k5, k6])) = xs[1]? := hf 1 _ rfl
  simp only [hc0, hc1, hc2, List.drop_zero, List.drop_succ_cons, List.take_succ_cons, List.take_zero] at h1
  obtain ⟨a0, a1, a2, e1, e2, e3, u1, u2, u3⟩ := cells_Rack h1 (hs 1 (by decide))
  have h2 : DataW.trod enc Try.prog w base (fun _ => true) held m 3 (List.take (Try.prog.cellsOf 3) (List.drop 4 [k0, k1, k2, k3, k4, k5, k6])) = xs[2]? := hf 2 _ rfl
  simp only [hc0, hc1, hc2, List.drop_zero, List.drop_succ_cons, List.take_succ_cons, List.take_zero] at h2
  obtain ⟨a3, e4, u4⟩ := int_cell h2 (hs 2 (by decide))
  have h3 : DataW.trod enc Try.prog w base (fun _ => true) held m 3 (List.take (Try.prog.cellsOf 3) (List.drop 5 [k0, k1, k2, k3, k4, k5, k6])) = xs[3]? := hf 3 _ rfl
  simp only [hc0, hc1, hc2, List.drop_zero, List.drop_succ_cons, List.take_succ_cons, List.take_zero] at h3
  obtain ⟨a4, e5, u5⟩ := int_cell h3 (hs 3 (by decide))
  have h4 : DataW.trod enc Try.prog w base (fun _ => true) held m 3 (List.take (Try.prog.cellsOf 3) (List.drop 6 [k0, k1, k2, k3, k4, k5, k6])) = xs[4]? := hf 4 _ rfl
  simp only [hc0, hc1, hc2, List.drop_zero, List.drop_succ_cons, List.take_succ_cons, List.take_zero] at h4
  obtain ⟨a5, e6, u6⟩ := int_cell h4 (hs 4 (by decide))
  exact ⟨Ax, nx, cx, zx, a0, a1, a2, a3, a4, a5, e0, e1, e2, e3, e4, e5, e6, mx, wx, u1, u2, u3, u4, u5, u6⟩
set_option maxRecDepth 100000 in
theorem openStock {H : Type} {enc : TypeId × Value → H} {w : World} {base b0 : Nat} {held : Bool} {r : Reach} {v : Value} {d : DataW H} {p : List MemPlace} (hv : Value.okWide Try.prog w r b0 24 v) (h : DataW.Trod enc Try.prog w base (fun _ => true) held 24 v d p) :
    ∃ (Ax : Option Addr) (nx cx : Nat) (zx : List Int), v = .agg #[.slice Ax nx cx] ∧ nx ≤ maxLen ∧ ReadsI w Ax nx zx := by
  obtain ⟨cs, rfl, hsz⟩ := okWide_struct Try.underlying24 hv
  obtain ⟨fuel, hf⟩ := h
  have hC : Try.prog.cellsOf 24 = 1 := by kernel_rfl
  rw [hC] at hsz
  obtain ⟨l⟩ := cs
  have hl : l.length = 1 := by simpa using hsz
  obtain ⟨k0, l0, rfl, hl0⟩ := list_n l 0 hl
  obtain rfl := List.length_eq_zero_iff.1 hl0
  obtain ⟨Ax, nx, cx, zx, e0, mx, wx⟩ := cells_Stock (o := some (d, p)) (show DataW.trod enc Try.prog w base (fun _ => true) held fuel 24 [k0] = some (d, p) from hf) rfl
  subst e0
  exact ⟨Ax, nx, cx, zx, rfl, mx, wx⟩
set_option maxRecDepth 100000 in
theorem openBook {H : Type} {enc : TypeId × Value → H} {w : World} {base b0 : Nat} {held : Bool} {r : Reach} {v : Value} {d : DataW H} {p : List MemPlace} (hv : Value.okWide Try.prog w r b0 33 v) (h : DataW.Trod enc Try.prog w base (fun _ => true) held 33 v d p) :
    ∃ (Ax : Option Addr) (nx cx : Nat) (zx : List EventR) (a0 : Int) (a1 : Int) (a2 : Int) (a3 : Int) (a4 : Int) (a5 : Int), v = .agg #[.slice Ax nx cx, .int .i64 a0, .int .i64 a1, .int .i64 a2, .int .i64 a3, .int .i64 a4, .int .i64 a5] ∧ nx ≤ maxLen ∧ ReadsEvent w Ax nx zx ∧ (Lit.int .i64 a0).wf = true ∧ (Lit.int .i64 a1).wf = true ∧ (Lit.int .i64 a2).wf = true ∧ (Lit.int .i64 a3).wf = true ∧ (Lit.int .i64 a4).wf = true ∧ (Lit.int .i64 a5).wf = true := by
  obtain ⟨cs, rfl, hsz⟩ := okWide_struct Try.underlying33 hv
  obtain ⟨fuel, hf⟩ := h
  have hC : Try.prog.cellsOf 33 = 7 := by kernel_rfl
  rw [hC] at hsz
  obtain ⟨l⟩ := cs
  have hl : l.length = 7 := by simpa using hsz
  obtain ⟨k0, l0, rfl, hl0⟩ := list_n l 6 hl
  obtain ⟨k1, l1, rfl, hl1⟩ := list_n l0 5 hl0
  obtain ⟨k2, l2, rfl, hl2⟩ := list_n l1 4 hl1
  obtain ⟨k3, l3, rfl, hl3⟩ := list_n l2 3 hl2
  obtain ⟨k4, l4, rfl, hl4⟩ := list_n l3 2 hl3
  obtain ⟨k5, l5, rfl, hl5⟩ := list_n l4 1 hl4
  obtain ⟨k6, l6, rfl, hl6⟩ := list_n l5 0 hl5
  obtain rfl := List.length_eq_zero_iff.1 hl6
  obtain ⟨Ax, nx, cx, zx, a0, a1, a2, a3, a4, a5, e0, e1, e2, e3, e4, e5, e6, mx, wx, u1, u2, u3, u4, u5, u6⟩ := cells_Book (o := some (d, p)) (show DataW.trod enc Try.prog w base (fun _ => true) held fuel 33 [k0, k1, k2, k3, k4, k5, k6] = some (d, p) from hf) rfl
  subst e0 e1 e2 e3 e4 e5 e6
  exact ⟨Ax, nx, cx, zx, a0, a1, a2, a3, a4, a5, rfl, mx, wx, u1, u2, u3, u4, u5, u6⟩
end Go.Proofs.Ytmcfghklfkmfkaa
/- Structs that come in: Bakery. -/
namespace Go.Proofs.Ytmcfghklfkmfkaa
open Go.ChangeShapes Go.WideShapes Go.ChangeAt Go.RowKit
set_option linter.unusedVariables false
set_option linter.unusedSimpArgs false
set_option maxHeartbeats 2000000

theorem cells_Dough {H : Type} {enc : TypeId × Value → H} {w : World} {base : Nat} {held : Bool} {fuel : Nat} {k0 k1 k2 : Value} {o : Option (DataW H × List MemPlace)} (h : DataW.trod enc Try.prog w base (fun _ => true) held fuel 26 [k0, k1, k2] = o) (ho : o.isSome = true) :
    ∃ (a0 : Int) (a1 : Int) (a2 : Int), k0 = .int .i64 a0 ∧ k1 = .int .i64 a1 ∧ k2 = .int .i64 a2 ∧ (Lit.int .i64 a0).wf = true ∧ (Lit.int .i64 a1).wf = true ∧ (Lit.int .i64 a2).wf = true := by
  obtain ⟨y, hy⟩ := Option.isSome_iff_exists.1 ho
  rw [hy] at h
  obtain ⟨xs, m, _, _, _, hlen, hf⟩ := DataW.trod_struct Try.underlying26 h
  have hc0 : Try.prog.cellsOf 3 = 1 := by kernel_rfl
  have hs : ∀ i, i < 3 → (xs[i]?).isSome = true := fun i hi => by
    have : i < xs.length := by rw [hlen]; exact hi
    simp [this]
  have h0 : DataW.trod enc Try.prog w base (fun _ => true) held m 3 (List.take (Try.prog.cellsOf 3) (List.drop 0 [k0, k1, k2])) = xs[0]? := hf 0 _ rfl
  simp only [hc0, List.drop_zero, List.drop_succ_cons, List.take_succ_cons, List.take_zero] at h0
  obtain ⟨a0, e0, u0⟩ := int_cell h0 (hs 0 (by decide))
  have h1 : DataW.trod enc Try.prog w base (fun _ => true) held m 3 (List.take (Try.prog.cellsOf 3) (List.drop 1 [k0, k1, k2])) = xs[1]? := hf 1 _ rfl
  simp only [hc0, List.drop_zero, List.drop_succ_cons, List.take_succ_cons, List.take_zero] at h1
  obtain ⟨a1, e1, u1⟩ := int_cell h1 (hs 1 (by decide))
  have h2 : DataW.trod enc Try.prog w base (fun _ => true) held m 3 (List.take (Try.prog.cellsOf 3) (List.drop 2 [k0, k1, k2])) = xs[2]? := hf 2 _ rfl
  simp only [hc0, List.drop_zero, List.drop_succ_cons, List.take_succ_cons, List.take_zero] at h2
  obtain ⟨a2, e2, u2⟩ := int_cell h2 (hs 2 (by decide))
  exact ⟨a0, a1, a2, e0, e1, e2, u0, u1, u2⟩
theorem cells_Loaf {H : Type} {enc : TypeId × Value → H} {w : World} {base : Nat} {held : Bool} {fuel : Nat} {k0 k1 : Value} {o : Option (DataW H × List MemPlace)} (h : DataW.trod enc Try.prog w base (fun _ => true) held fuel 28 [k0, k1] = o) (ho : o.isSome = true) :
    ∃ (a0 : Int) (a1 : Int), k0 = .int .i64 a0 ∧ k1 = .int .i64 a1 ∧ (Lit.int .i64 a0).wf = true ∧ (Lit.int .i64 a1).wf = true := by
  obtain ⟨y, hy⟩ := Option.isSome_iff_exists.1 ho
  rw [hy] at h
  obtain ⟨xs, m, _, _, _, hlen, hf⟩ := DataW.trod_struct Try.underlying28 h
  have hc0 : Try.prog.cellsOf 3 = 1 := by kernel_rfl
  have hs : ∀ i, i < 2 → (xs[i]?).isSome = true := fun i hi => by
    have : i < xs.length := by rw [hlen]; exact hi
    simp [this]
  have h0 : DataW.trod enc Try.prog w base (fun _ => true) held m 3 (List.take (Try.prog.cellsOf 3) (List.drop 0 [k0, k1])) = xs[0]? := hf 0 _ rfl
  simp only [hc0, List.drop_zero, List.drop_succ_cons, List.take_succ_cons, List.take_zero] at h0
  obtain ⟨a0, e0, u0⟩ := int_cell h0 (hs 0 (by decide))
  have h1 : DataW.trod enc Try.prog w base (fun _ => true) held m 3 (List.take (Try.prog.cellsOf 3) (List.drop 1 [k0, k1])) = xs[1]? := hf 1 _ rfl
  simp only [hc0, List.drop_zero, List.drop_succ_cons, List.take_succ_cons, List.take_zero] at h1
  obtain ⟨a1, e1, u1⟩ := int_cell h1 (hs 1 (by decide))
  exact ⟨a0, a1, e0, e1, u0, u1⟩
theorem cells_Bakery {H : Type} {enc : TypeId × Value → H} {w : World} {base : Nat} {held : Bool} {fuel : Nat} {k0 k1 k2 k3 k4 k5 k6 k7 k8 k9 k10 k11 k12 k13 : Value} {o : Option (DataW H × List MemPlace)} (h : DataW.trod enc Try.prog w base (fun _ => true) held fuel 35 [k0, k1, k2, k3, k4, k5, k6, k7, k8, k9, k10, k11, k12, k13] = o) (ho : o.isSome = true) :
    ∃ (Ax : Option Addr) (nx cx : Nat) (zx : List Int) (a0 : Int) (a1 : Int) (a2 : Int) (a3 : Int) (a4 : Int) (Ay : Option Addr) (ny cy : Nat) (zy : List EventR) (a5 : Int) (a6 : Int) (a7 : Int) (a8 : Int) (a9 : Int) (a10 : Int) (a11 : Int), k0 = .slice Ax nx cx ∧ k1 = .int .i64 a0 ∧ k2 = .int .i64 a1 ∧ k3 = .int .i64 a2 ∧ k4 = .int .i64 a3 ∧ k5 = .int .i64 a4 ∧ k6 = .slice Ay ny cy ∧ k7 = .int .i64 a5 ∧ k8 = .int .i64 a6 ∧ k9 = .int .i64 a7 ∧ k10 = .int .i64 a8 ∧ k11 = .int .i64 a9 ∧ k12 = .int .i64 a10 ∧ k13 = .int .i64 a11 ∧ nx ≤ maxLen ∧ ReadsI w Ax nx zx ∧ (Lit.int .i64 a0).wf = true ∧ (Lit.int .i64 a1).wf = true ∧ (Lit.int .i64 a2).wf = true ∧ (Lit.int .i64 a3).wf = true ∧ (Lit.int .i64 a4).wf = true ∧ ny ≤ maxLen ∧ ReadsEvent w Ay ny zy ∧ (Lit.int .i64 a5).wf = true ∧ (Lit.int .i64 a6).wf = true ∧ (Lit.int .i64 a7).wf = true ∧ (Lit.int .i64 a8).wf = true ∧ (Lit.int .i64 a9).wf = true ∧ (Lit.int .i64 a10).wf = true ∧ (Lit.int .i64 a11).wf = true := by
  obtain ⟨y, hy⟩ := Option.isSome_iff_exists.1 ho
  rw [hy] at h
  obtain ⟨xs, m, _, _, _, hlen, hf⟩ := DataW.trod_struct Try.underlying35 h
  have hc0 : Try.prog.cellsOf 24 = 1 := by kernel_rfl
  have hc1 : Try.prog.cellsOf 26 = 3 := by kernel_rfl
  have hc2 : Try.prog.cellsOf 28 = 2 := by kernel_rfl
  have hc3 : Try.prog.cellsOf 33 = 7 := by kernel_rfl
  have hc4 : Try.prog.cellsOf 3 = 1 := by kernel_rfl
  have hs : ∀ i, i < 5 → (xs[i]?).isSome = true := fun i hi => by
    have : i < xs.length := by rw [hlen]; exact hi
    simp [this]
  have h0 : DataW.trod enc Try.prog w base (fun _ => true) held m 24 (List.take (Try.prog.cellsOf 24) (List.drop 0 [k0, k1, k2, k3, k4, k5, k6, k7, k8, k9, k10, k11, k12, k13])) = xs[0]? := hf 0 _ rfl
  simp only [hc0, hc1, hc2, hc3, hc4, List.drop_zero, List.drop_succ_cons, List.take_succ_cons, List.take_zero] at h0
  obtain ⟨Ax, nx, cx, zx, e0, mx, wx⟩ := cells_Stock h0 (hs 0 (by decide))
  have h1 : DataW.trod enc Try.prog w base (fun _ => true) held m 26 (List.take (Try.prog.cellsOf 26) (List.drop 1 [k0, k1, k2, k3, k4, k5, k6, k7, k8, k9, k10, k11, k12, k13])) = xs[1]? := hf 1 _ rfl
  simp only [hc0, hc1, hc2, hc3, hc4, List.drop_zero, List.drop_succ_cons, List.take_succ_cons, List.take_zero] at h1
  obtain ⟨a0, a1, a2, e1, e2, e3, u1, u2, u3⟩ := cells_Dough h1 (hs 1 (by decide))
  have h2 : DataW.trod enc Try.prog w base (fun _ => true) held m 28 (List.take (Try.prog.cellsOf 28) (List.drop 4 [k0, k1, k2, k3, k4, k5, k6, k7, k8, k9, k10, k11, k12, k13])) = xs[2]? := hf 2 _ rfl
  simp only [hc0, hc1, hc2, hc3, hc4, List.drop_zero, List.drop_succ_cons, List.take_succ_cons, List.take_zero] at h2
  obtain ⟨a3, a4, e4, e5, u4, u5⟩ := cells_Loaf h2 (hs 2 (by decide))
  have h3 : DataW.trod enc Try.prog w base (fun _ => true) held m 33 (List.take (Try.prog.cellsOf 33) (List.drop 6 [k0, k1, k2, k3, k4, k5, k6, k7, k8, k9, k10, k11, k12, k13])) = xs[3]? := hf 3 _ rfl
  simp only [hc0, hc1, hc2, hc3, hc4, List.drop_zero, List.drop_succ_cons, List.take_succ_cons, List.take_zero] at h3
  obtain ⟨Ay, ny, cy, zy, a5, a6, a7, a8, a9, a10, e6, e7, e8, e9, e10, e11, e12, my, wy, u7, u8, u9, u10, u11, u12⟩ := cells_Book h3 (hs 3 (by decide))
  have h4 : DataW.trod enc Try.prog w base (fun _ => true) held m 3 (List.take (Try.prog.cellsOf 3) (List.drop 13 [k0, k1, k2, k3, k4, k5, k6, k7, k8, k9, k10, k11, k12, k13])) = xs[4]? := hf 4 _ rfl
  simp only [hc0, hc1, hc2, hc3, hc4, List.drop_zero, List.drop_succ_cons, List.take_succ_cons, List.take_zero] at h4
  obtain ⟨a11, e13, u13⟩ := int_cell h4 (hs 4 (by decide))
  exact ⟨Ax, nx, cx, zx, a0, a1, a2, a3, a4, Ay, ny, cy, zy, a5, a6, a7, a8, a9, a10, a11, e0, e1, e2, e3, e4, e5, e6, e7, e8, e9, e10, e11, e12, e13, mx, wx, u1, u2, u3, u4, u5, my, wy, u7, u8, u9, u10, u11, u12, u13⟩
set_option maxRecDepth 100000 in
theorem openBakery {H : Type} {enc : TypeId × Value → H} {w : World} {base b0 : Nat} {held : Bool} {r : Reach} {v : Value} {d : DataW H} {p : List MemPlace} (hv : Value.okWide Try.prog w r b0 35 v) (h : DataW.Trod enc Try.prog w base (fun _ => true) held 35 v d p) :
    ∃ (Ax : Option Addr) (nx cx : Nat) (zx : List Int) (a0 : Int) (a1 : Int) (a2 : Int) (a3 : Int) (a4 : Int) (Ay : Option Addr) (ny cy : Nat) (zy : List EventR) (a5 : Int) (a6 : Int) (a7 : Int) (a8 : Int) (a9 : Int) (a10 : Int) (a11 : Int), v = .agg #[.slice Ax nx cx, .int .i64 a0, .int .i64 a1, .int .i64 a2, .int .i64 a3, .int .i64 a4, .slice Ay ny cy, .int .i64 a5, .int .i64 a6, .int .i64 a7, .int .i64 a8, .int .i64 a9, .int .i64 a10, .int .i64 a11] ∧ nx ≤ maxLen ∧ ReadsI w Ax nx zx ∧ (Lit.int .i64 a0).wf = true ∧ (Lit.int .i64 a1).wf = true ∧ (Lit.int .i64 a2).wf = true ∧ (Lit.int .i64 a3).wf = true ∧ (Lit.int .i64 a4).wf = true ∧ ny ≤ maxLen ∧ ReadsEvent w Ay ny zy ∧ (Lit.int .i64 a5).wf = true ∧ (Lit.int .i64 a6).wf = true ∧ (Lit.int .i64 a7).wf = true ∧ (Lit.int .i64 a8).wf = true ∧ (Lit.int .i64 a9).wf = true ∧ (Lit.int .i64 a10).wf = true ∧ (Lit.int .i64 a11).wf = true := by
  obtain ⟨cs, rfl, hsz⟩ := okWide_struct Try.underlying35 hv
  obtain ⟨fuel, hf⟩ := h
  have hC : Try.prog.cellsOf 35 = 14 := by kernel_rfl
  rw [hC] at hsz
  obtain ⟨l⟩ := cs
  have hl : l.length = 14 := by simpa using hsz
  obtain ⟨k0, l0, rfl, hl0⟩ := list_n l 13 hl
  obtain ⟨k1, l1, rfl, hl1⟩ := list_n l0 12 hl0
  obtain ⟨k2, l2, rfl, hl2⟩ := list_n l1 11 hl1
  obtain ⟨k3, l3, rfl, hl3⟩ := list_n l2 10 hl2
  obtain ⟨k4, l4, rfl, hl4⟩ := list_n l3 9 hl3
  obtain ⟨k5, l5, rfl, hl5⟩ := list_n l4 8 hl4
  obtain ⟨k6, l6, rfl, hl6⟩ := list_n l5 7 hl5
  obtain ⟨k7, l7, rfl, hl7⟩ := list_n l6 6 hl6
  obtain ⟨k8, l8, rfl, hl8⟩ := list_n l7 5 hl7
  obtain ⟨k9, l9, rfl, hl9⟩ := list_n l8 4 hl8
  obtain ⟨k10, l10, rfl, hl10⟩ := list_n l9 3 hl9
  obtain ⟨k11, l11, rfl, hl11⟩ := list_n l10 2 hl10
  obtain ⟨k12, l12, rfl, hl12⟩ := list_n l11 1 hl11
  obtain ⟨k13, l13, rfl, hl13⟩ := list_n l12 0 hl12
  obtain rfl := List.length_eq_zero_iff.1 hl13
  obtain ⟨Ax, nx, cx, zx, a0, a1, a2, a3, a4, Ay, ny, cy, zy, a5, a6, a7, a8, a9, a10, a11, e0, e1, e2, e3, e4, e5, e6, e7, e8, e9, e10, e11, e12, e13, mx, wx, u1, u2, u3, u4, u5, my, wy, u7, u8, u9, u10, u11, u12, u13⟩ := cells_Bakery (o := some (d, p)) (show DataW.trod enc Try.prog w base (fun _ => true) held fuel 35 [k0, k1, k2, k3, k4, k5, k6, k7, k8, k9, k10, k11, k12, k13] = some (d, p) from hf) rfl
  subst e0 e1 e2 e3 e4 e5 e6 e7 e8 e9 e10 e11 e12 e13
  exact ⟨Ax, nx, cx, zx, a0, a1, a2, a3, a4, Ay, ny, cy, zy, a5, a6, a7, a8, a9, a10, a11, rfl, mx, wx, u1, u2, u3, u4, u5, my, wy, u7, u8, u9, u10, u11, u12, u13⟩
end Go.Proofs.Ytmcfghklfkmfkaa
