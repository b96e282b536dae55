/- Slices of Bread: the laws' helpers by contract. -/
import Derived.Test.YtgjbbidcpmglbaaOpen
import Derived.Test.YtgjbbidcpmglbaaChecked
import Derived.Deep.QuietTactic
import Derived.BigQuiet
import Derived.Deep.RegionHeld3
namespace Go.Proofs.Ytgjbbidcpmglbaa
open Go.ChangeShapes Go.WideShapes Go.ChangeAt Go.RowKit
set_option linter.unusedVariables false
set_option linter.unusedSimpArgs false
structure BreadR where
  f0 : Int
  f1 : Int
  f2 : Int

/-- a slice of Bread that is read -/
def ReadsBread (w : World) (A : Option Addr) (n : Nat) (xs : List BreadR) : Prop :=
  xs.length = n ∧ ∀ k, k < n → ∃ ad, A = some ad ∧ w.cell? (ad.add (k * 3)) = some (.int .i64 (xs.getD k ⟨0, 0, 0⟩).f0) ∧ w.cell? ⟨(ad.add (k * 3)).block, (ad.add (k * 3)).off + 1, none⟩ = some (.int .i64 (xs.getD k ⟨0, 0, 0⟩).f1) ∧ w.cell? ⟨(ad.add (k * 3)).block, (ad.add (k * 3)).off + 2, none⟩ = some (.int .i64 (xs.getD k ⟨0, 0, 0⟩).f2)
theorem ReadsBread.in_ {w w' : World} {A : Option Addr} {n : Nat} {xs : List BreadR} (h : ReadsBread w A n xs) (hi : In w.heap.size w w') : ReadsBread w' A n xs := by
  refine ⟨h.1, fun k hk => ?_⟩
  obtain ⟨ad, hA, h0, h1, h2⟩ := h.2 k hk
  exact ⟨ad, hA, cell_in h0 hi, cell_in h1 hi, cell_in h2 hi⟩
theorem ReadsBread.below {w w' : World} {A : Option Addr} {n : Nat} {xs : List BreadR} (h : ReadsBread w A n xs) (hb : Below w.heap.size w w') : ReadsBread w' A n xs := h.in_ ⟨hb, hb.size⟩
theorem ReadsBread.step {w w' : World} {A : Option Addr} {n : Nat} {xs : List BreadR} (h : ReadsBread w A n xs) (hb : Below w.heap.size w w') : ReadsBread w' A n xs := h.below hb
theorem ReadsBread.alloc {w : World} {A : Option Addr} {n : Nat} {xs : List BreadR} (h : ReadsBread w A n xs) (o : Obj) : ReadsBread (w.alloc o) A n xs := h.in_ ((In.refl w).alloc o)
theorem ReadsBread.drew {w : World} {A : Option Addr} {n : Nat} {xs : List BreadR} (h : ReadsBread w A n xs) : ReadsBread w.drew A n xs := h.in_ (In.refl w).drew
/-- block g holds these Breads -/
def OwnBread (w : World) (g n : Nat) (xs : List BreadR) : Prop :=
  ∃ cur : Array Value, Blk w g 51 cur ∧ cur.size = n * 3 ∧ xs.length = n ∧ ∀ t, t < n → cur[t * 3]? = some (.int .i64 (xs.getD t ⟨0, 0, 0⟩).f0) ∧ cur[t * 3 + 1]? = some (.int .i64 (xs.getD t ⟨0, 0, 0⟩).f1) ∧ cur[t * 3 + 2]? = some (.int .i64 (xs.getD t ⟨0, 0, 0⟩).f2)
theorem OwnBread.reads {w : World} {g n : Nat} {xs : List BreadR} (h : OwnBread w g n xs) : ReadsBread w (some ⟨g, 0, none⟩) n xs := by
  obtain ⟨cur, hb, hs, hl, hc⟩ := h
  refine ⟨hl, fun k hk => ⟨_, rfl, ?_⟩⟩
  have := hc k hk
  simp only [Addr.add_lit, Nat.zero_add, hb.cell]
  exact this
theorem OwnBread.below {w w' : World} {g n B : Nat} {xs : List BreadR} (h : OwnBread w g n xs) (hb : Below B w w') (hg : g < B) : OwnBread w' g n xs := by
  obtain ⟨cur, hk, r⟩ := h
  exact ⟨cur, hk.below hb hg, r⟩
theorem eqheldBread {w w' : World} {a b : Addr} {k : Nat} {x0 : Int} {x1 : Int} {x2 : Int} (hi : In w.heap.size w w') (ha : w.cell? (a.add (k * 3)) = some (.int .i64 x0) ∧ w.cell? ⟨(a.add (k * 3)).block, (a.add (k * 3)).off + 1, none⟩ = some (.int .i64 x1) ∧ w.cell? ⟨(a.add (k * 3)).block, (a.add (k * 3)).off + 2, none⟩ = some (.int .i64 x2)) (hb : w.cell? (b.add (k * 3)) = some (.int .i64 x0) ∧ w.cell? ⟨(b.add (k * 3)).block, (b.add (k * 3)).off + 1, none⟩ = some (.int .i64 x1) ∧ w.cell? ⟨(b.add (k * 3)).block, (b.add (k * 3)).off + 2, none⟩ = some (.int .i64 x2)) :
    In w.heap.size w w' ∧ w'.cell? (a.add (k * 3)) = some (.int .i64 x0) ∧ w'.cell? ⟨(a.add (k * 3)).block, (a.add (k * 3)).off + 1, none⟩ = some (.int .i64 x1) ∧ w'.cell? ⟨(a.add (k * 3)).block, (a.add (k * 3)).off + 2, none⟩ = some (.int .i64 x2) ∧ w'.cell? (b.add (k * 3)) = some (.int .i64 x0) ∧ w'.cell? ⟨(b.add (k * 3)).block, (b.add (k * 3)).off + 1, none⟩ = some (.int .i64 x1) ∧ w'.cell? ⟨(b.add (k * 3)).block, (b.add (k * 3)).off + 2, none⟩ = some (.int .i64 x2) := by
  obtain ⟨a0, a1, a2⟩ := ha
  obtain ⟨b0, b1, b2⟩ := hb
  exact ⟨hi, cell_in a0 hi, cell_in a1 hi, cell_in a2 hi, cell_in b0 hi, cell_in b1 hi, cell_in b2 hi⟩
theorem infoBread : (Try.prog.info? 51).map (fun i => (i.zero, i.size)) = some (some (.agg #[.int .i64 0, .int .i64 0, .int .i64 0]), 3) := by kernel_rfl
theorem bytesBread : (Try.prog.info? 51).map (fun i => decide (i.bytes ≤ 96)) = some true := by kernel_rfl
/-- what a call answers that makes a row of Breads of its own -/
def RowBread (xs : List BreadR) (w : World) (e : Ending) (w' : World) : Prop :=
  ∃ g, e = .returned (.slice (some ⟨g, 0, none⟩) xs.length xs.length) ∧ OwnBread w' g xs.length xs ∧ w.heap.size ≤ g ∧ Below w.heap.size w w'
end Go.Proofs.Ytgjbbidcpmglbaa
