/- Worlds: what a call that answers a value leaves (no dump). -/
import Derived.Test.YtmkfnhgaiheckaaBase
namespace Go.Proofs.Ytmkfnhgaiheckaa
open Go.ChangeShapes Go.WideShapes Go.ChangeAt Go.RowKit
set_option linter.unusedVariables false

/-- a world that only new blocks tell from a -/
structure In (B : Nat) (a w : World) : Prop where
  below : Below B a w
  size : B ≤ w.heap.size
theorem In.refl (w : World) : In w.heap.size w w := ⟨Below.refl _ _, Nat.le_refl _⟩
theorem In.alloc {B : Nat} {a w : World} (h : In B a w) (o : Obj) : In B a (w.alloc o) := ⟨h.below.alloc h.size o, by have := h.size; simp; omega⟩
theorem In.drew {B : Nat} {a w : World} (h : In B a w) : In B a w.drew := ⟨h.below.drew, h.size⟩
theorem In.drewN {B : Nat} {a w : World} (h : In B a w) (n : Nat) : In B a (w.drewN n) := ⟨below_drewN h.below n, h.size⟩
theorem In.set_ {B : Nat} {a w : World} (h : In B a w) {p : Addr} (hp : B ≤ p.block) (u : Value) : In B a (w.setCell p u) := ⟨h.below.setCell hp u, by simpa [World.setCell] using h.size⟩
theorem In.step {B : Nat} {a w w' : World} (h : In B a w) (k : Below w.heap.size w w') : In B a w' := ⟨h.below.trans (k.mono h.size), Nat.le_trans h.size k.size⟩
theorem In.wide {B : Nat} {a w w' : World} (h : In B a w) (k : Below B w w') : In B a w' := ⟨h.below.trans k, Nat.le_trans h.size k.size⟩
theorem own_step {w w' : World} {base : Nat} {e : TypeId} {size n : Nat} {v : Value} {xs : List Value} (h : w.ownsRow base e size v n xs) (hb : Below w.heap.size w w') : w'.ownsRow base e size v n xs := own_below h hb (Nat.le_refl _)
theorem own_base {w : World} {base base' : Nat} {e : TypeId} {size n : Nat} {v : Value} {xs : List Value} (h : w.ownsRow base e size v n xs) (hb : base' ≤ base) : w.ownsRow base' e size v n xs := by
  refine ⟨h.1, ?_⟩
  rcases h.2 with hn | ⟨g, cap, cur, rfl, hg, rest⟩
  · exact .inl hn
  · exact .inr ⟨g, cap, cur, rfl, Nat.le_trans hb hg, rest⟩
theorem own_only {w w' : World} {base g : Nat} {e : TypeId} {size n : Nat} {v : Value} {xs : List Value} (h : w.ownsRow base e size v n xs) (hb : w.grownBy w' (some g)) (hg : g < base) : w'.ownsRow base e size v n xs := by
  have hl := own_lt h
  refine ⟨h.1, ?_⟩
  rcases h.2 with hn | ⟨g', cap, cur, rfl, hg', hh, rest⟩
  · exact .inl hn
  · exact .inr ⟨g', cap, cur, rfl, hg', (hb.block g' (hl g' (by simp [Value.ownBlock])) (fun e => by injection e; omega)).trans hh, rest⟩
theorem In.trans {B : Nat} {a w w' : World} (h : In B a w) (k : In w.heap.size w w') : In B a w' := h.step k.below

/-- the call answers v, and the world is the same -/
def Same (v : Value) (w : World) (e : Ending) (w' : World) : Prop := e = .returned v ∧ w = w'
/-- the call answers v, and only new blocks are written -/
def Val (v : Value) (w : World) (e : Ending) (w' : World) : Prop := e = .returned v ∧ Below w.heap.size w w'
theorem Val.mk' {v u : Value} {w w' : World} (h : u = v) (k : In w.heap.size w w') : Val v w (.returned u) w' := ⟨by rw [h], k.below⟩
theorem v_bool {a b : Bool} (h : a = b) : Value.bool a = .bool b := by rw [h]
theorem v_int {k : IntKind} {a b : Int} (h : a = b) : Value.int k a = .int k b := by rw [h]
abbrev i64 (a : Int) : Value := .int .i64 a

theorem w64 {x : Int} (h : -9223372036854775808 ≤ x ∧ x ≤ 9223372036854775807) : wrap64 x = x := by
  unfold wrap64; omega
theorem mul_in {a b A B : Int} (h1 : 0 ≤ a) (h2 : a ≤ A) (h3 : 0 ≤ b) (h4 : b ≤ B) : 0 ≤ a * b ∧ a * b ≤ A * B :=
  ⟨Int.mul_nonneg h1 h3, Int.mul_le_mul h2 h4 h3 (Int.le_trans h1 h2)⟩
theorem tdiv_in {a b : Int} (h1 : 0 ≤ a) (h2 : 0 < b) : 0 ≤ a.tdiv b ∧ a.tdiv b ≤ a := by
  rw [Int.tdiv_eq_ediv_of_nonneg h1]
  exact ⟨Int.ediv_nonneg h1 (by omega), Int.ediv_le_self b h1⟩
theorem cell_lt {w : World} {p : Addr} {v : Value} (h : w.cell? p = some v) : p.block < w.heap.size := World.block_lt_of_cell? w _ h
theorem cell_in {w w' : World} {p : Addr} {v : Value} (h : w.cell? p = some v) (hi : In w.heap.size w w') : w'.cell? p = some v := (hi.below.cell (cell_lt h)).trans h
theorem same_below {w w' : World} (h : w = w') : Below w.heap.size w w' := h ▸ Below.refl _ _
theorem bcell {W w1 : World} (hb : Below W.heap.size W w1) : (∀ b o, b < W.heap.size → w1.cell? ⟨b, o, none⟩ = W.cell? ⟨b, o, none⟩) ∧ (∀ b o, b < W.heap.size → w1.frozen? ⟨b, o, none⟩ = W.frozen? ⟨b, o, none⟩) :=
  ⟨fun b o h => hb.cell (p := ⟨b, o, none⟩) h, fun b o h => hb.frozen (p := ⟨b, o, none⟩) h⟩

theorem Blk.step {w w' : World} {g : Nat} {t : TypeId} {cs : Array Value} (h : Blk w g t cs) (hb : Below w.heap.size w w') : Blk w' g t cs := h.below hb h.lt

theorem Blk.new' {w : World} {t : TypeId} {cs : Array Value} {g : Nat} (h : g = w.heap.size) : Blk (w.alloc (.cells cs t)) g t cs := by subst h; exact Blk.new w t cs

theorem held_c4 {w w' : World} {p1 p2 p3 p4 : Addr} {v1 v2 v3 v4 : Value} (c1 : w.cell? p1 = some v1) (c2 : w.cell? p2 = some v2) (c3 : w.cell? p3 = some v3) (c4 : w.cell? p4 = some v4) (h : In w.heap.size w w') :
    In w.heap.size w w' ∧ w'.cell? p1 = some v1 ∧ w'.cell? p2 = some v2 ∧ w'.cell? p3 = some v3 ∧ w'.cell? p4 = some v4 := ⟨h, cell_in c1 h, cell_in c2 h, cell_in c3 h, cell_in c4 h⟩
theorem held_d4 {w w1 w' : World} {B : Nat} {p1 p2 p3 p4 : Addr} {v1 v2 v3 v4 : Value} (c1 : w1.cell? p1 = some v1) (c2 : w1.cell? p2 = some v2) (c3 : w1.cell? p3 = some v3) (c4 : w1.cell? p4 = some v4) (h0 : In B w w1) (h : In w1.heap.size w1 w') :
    In B w w' ∧ w'.cell? p1 = some v1 ∧ w'.cell? p2 = some v2 ∧ w'.cell? p3 = some v3 ∧ w'.cell? p4 = some v4 := ⟨h0.trans h, cell_in c1 h, cell_in c2 h, cell_in c3 h, cell_in c4 h⟩
theorem held_s4 {w w1 w' : World} {B : Nat} {p1 p2 p3 p4 : Addr} {v1 v2 v3 v4 : Value} (h : In B w w1 ∧ w1.cell? p1 = some v1 ∧ w1.cell? p2 = some v2 ∧ w1.cell? p3 = some v3 ∧ w1.cell? p4 = some v4) (hb : Below w1.heap.size w1 w') :
    In B w w' ∧ w'.cell? p1 = some v1 ∧ w'.cell? p2 = some v2 ∧ w'.cell? p3 = some v3 ∧ w'.cell? p4 = some v4 := held_d4 h.2.1 h.2.2.1 h.2.2.2.1 h.2.2.2.2 h.1 ⟨hb, hb.size⟩

/-! a struct of the call's own, held in one block while calls go on -/
theorem held2 {a w' : World} {B g : Nat} {t : TypeId} {x y : Value} (h : In B a w') (k : Blk w' g t #[x, y]) :
    In B a w' ∧ w'.heap[g]? = some (.cells #[x, y] t (0, 0)) ∧ w'.cell? ⟨g, 0, none⟩ = some x ∧ w'.cell? ⟨g, 1, none⟩ = some y :=
  ⟨h, k, k.cell 0, k.cell 1⟩
theorem held2_step {a w0 w' : World} {B g : Nat} {t : TypeId} {x y : Value} (hb : Below w0.heap.size w0 w') (h : In B a w0 ∧ w0.heap[g]? = some (.cells #[x, y] t (0, 0)) ∧ w0.cell? ⟨g, 0, none⟩ = some x ∧ w0.cell? ⟨g, 1, none⟩ = some y) :
    In B a w' ∧ w'.heap[g]? = some (.cells #[x, y] t (0, 0)) ∧ w'.cell? ⟨g, 0, none⟩ = some x ∧ w'.cell? ⟨g, 1, none⟩ = some y :=
  held2 (h.1.step hb) (Blk.below (show Blk w0 g t #[x, y] from h.2.1) hb (Blk.lt (show Blk w0 g t #[x, y] from h.2.1)))
theorem held3 {a w' : World} {B g : Nat} {t : TypeId} {x y z : Value} (h : In B a w') (k : Blk w' g t #[x, y, z]) :
    In B a w' ∧ w'.heap[g]? = some (.cells #[x, y, z] t (0, 0)) ∧ w'.cell? ⟨g, 0, none⟩ = some x ∧ w'.cell? ⟨g, 1, none⟩ = some y ∧ w'.cell? ⟨g, 2, none⟩ = some z :=
  ⟨h, k, k.cell 0, k.cell 1, k.cell 2⟩
theorem held3_step {a w0 w' : World} {B g : Nat} {t : TypeId} {x y z : Value} (hb : Below w0.heap.size w0 w') (h : In B a w0 ∧ w0.heap[g]? = some (.cells #[x, y, z] t (0, 0)) ∧ w0.cell? ⟨g, 0, none⟩ = some x ∧ w0.cell? ⟨g, 1, none⟩ = some y ∧ w0.cell? ⟨g, 2, none⟩ = some z) :
    In B a w' ∧ w'.heap[g]? = some (.cells #[x, y, z] t (0, 0)) ∧ w'.cell? ⟨g, 0, none⟩ = some x ∧ w'.cell? ⟨g, 1, none⟩ = some y ∧ w'.cell? ⟨g, 2, none⟩ = some z :=
  held3 (h.1.step hb) (Blk.below (show Blk w0 g t #[x, y, z] from h.2.1) hb (Blk.lt (show Blk w0 g t #[x, y, z] from h.2.1)))
end Go.Proofs.Ytmkfnhgaiheckaa
