/- Slices of Shift: the laws' helpers by contract. -/
import Derived.Test.YthndjpklfgcpmaaOpen
import Derived.Test.YthndjpklfgcpmaaChecked
import Derived.Deep.QuietTactic
import Derived.BigQuiet
import Derived.Deep.RegionHeld3
namespace Go.Proofs.Ythndjpklfgcpmaa
open Go.ChangeShapes Go.WideShapes Go.ChangeAt Go.RowKit
set_option linter.unusedVariables false
set_option linter.unusedSimpArgs false
structure ShiftR where
  f0 : Int
  f1 : Int

/-- a slice of Shift that is read -/
def ReadsShift (w : World) (A : Option Addr) (n : Nat) (xs : List ShiftR) : Prop :=
  xs.length = n ∧ ∀ k, k < n → ∃ ad, A = some ad ∧ w.cell? (ad.add (k * 2)) = some (.int .i64 (xs.getD k ⟨0, 0⟩).f0) ∧ w.cell? ⟨(ad.add (k * 2)).block, (ad.add (k * 2)).off + 1, none⟩ = some (.int .i64 (xs.getD k ⟨0, 0⟩).f1)
theorem ReadsShift.in_ {w w' : World} {A : Option Addr} {n : Nat} {xs : List ShiftR} (h : ReadsShift w A n xs) (hi : In w.heap.size w w') : ReadsShift w' A n xs := by
  refine ⟨h.1, fun k hk => ?_⟩
  obtain ⟨ad, hA, h0, h1⟩ := h.2 k hk
  exact ⟨ad, hA, cell_in h0 hi, cell_in h1 hi⟩
theorem ReadsShift.below {w w' : World} {A : Option Addr} {n : Nat} {xs : List ShiftR} (h : ReadsShift w A n xs) (hb : Below w.heap.size w w') : ReadsShift w' A n xs := h.in_ ⟨hb, hb.size⟩
theorem ReadsShift.step {w w' : World} {A : Option Addr} {n : Nat} {xs : List ShiftR} (h : ReadsShift w A n xs) (hb : Below w.heap.size w w') : ReadsShift w' A n xs := h.below hb
theorem ReadsShift.alloc {w : World} {A : Option Addr} {n : Nat} {xs : List ShiftR} (h : ReadsShift w A n xs) (o : Obj) : ReadsShift (w.alloc o) A n xs := h.in_ ((In.refl w).alloc o)
theorem ReadsShift.drew {w : World} {A : Option Addr} {n : Nat} {xs : List ShiftR} (h : ReadsShift w A n xs) : ReadsShift w.drew A n xs := h.in_ (In.refl w).drew
/-- block g holds these Shifts -/
def OwnShift (w : World) (g n : Nat) (xs : List ShiftR) : Prop :=
  ∃ cur : Array Value, Blk w g 41 cur ∧ cur.size = n * 2 ∧ xs.length = n ∧ ∀ t, t < n → cur[t * 2]? = some (.int .i64 (xs.getD t ⟨0, 0⟩).f0) ∧ cur[t * 2 + 1]? = some (.int .i64 (xs.getD t ⟨0, 0⟩).f1)
theorem OwnShift.reads {w : World} {g n : Nat} {xs : List ShiftR} (h : OwnShift w g n xs) : ReadsShift w (some ⟨g, 0, none⟩) n xs := by
  obtain ⟨cur, hb, hs, hl, hc⟩ := h
  refine ⟨hl, fun k hk => ⟨_, rfl, ?_⟩⟩
  have := hc k hk
  simp only [Addr.add_lit, Nat.zero_add, hb.cell]
  exact this
theorem OwnShift.below {w w' : World} {g n B : Nat} {xs : List ShiftR} (h : OwnShift w g n xs) (hb : Below B w w') (hg : g < B) : OwnShift w' g n xs := by
  obtain ⟨cur, hk, r⟩ := h
  exact ⟨cur, hk.below hb hg, r⟩
theorem eqheldShift {w w' : World} {a b : Addr} {k : Nat} {x0 : Int} {x1 : Int} (hi : In w.heap.size w w') (ha : w.cell? (a.add (k * 2)) = some (.int .i64 x0) ∧ w.cell? ⟨(a.add (k * 2)).block, (a.add (k * 2)).off + 1, none⟩ = some (.int .i64 x1)) (hb : w.cell? (b.add (k * 2)) = some (.int .i64 x0) ∧ w.cell? ⟨(b.add (k * 2)).block, (b.add (k * 2)).off + 1, none⟩ = some (.int .i64 x1)) :
    In w.heap.size w w' ∧ w'.cell? (a.add (k * 2)) = some (.int .i64 x0) ∧ w'.cell? ⟨(a.add (k * 2)).block, (a.add (k * 2)).off + 1, none⟩ = some (.int .i64 x1) ∧ w'.cell? (b.add (k * 2)) = some (.int .i64 x0) ∧ w'.cell? ⟨(b.add (k * 2)).block, (b.add (k * 2)).off + 1, none⟩ = some (.int .i64 x1) := by
  obtain ⟨a0, a1⟩ := ha
  obtain ⟨b0, b1⟩ := hb
  exact ⟨hi, cell_in a0 hi, cell_in a1 hi, cell_in b0 hi, cell_in b1 hi⟩
theorem infoShift : (Try.prog.info? 41).map (fun i => (i.zero, i.size)) = some (some (.agg #[.int .i64 0, .int .i64 0]), 2) := by kernel_rfl
theorem bytesShift : (Try.prog.info? 41).map (fun i => decide (i.bytes ≤ 64)) = some true := by kernel_rfl
/-- what a call answers that makes a row of Shifts of its own -/
def RowShift (xs : List ShiftR) (w : World) (e : Ending) (w' : World) : Prop :=
  ∃ g, e = .returned (.slice (some ⟨g, 0, none⟩) xs.length xs.length) ∧ OwnShift w' g xs.length xs ∧ w.heap.size ≤ g ∧ Below w.heap.size w w'
end Go.Proofs.Ythndjpklfgcpmaa
