/- Slices of Odds: the laws' helpers by contract. -/
import Derived.Test.YtkaaebpoljnbnaaOpen
import Derived.Test.YtkaaebpoljnbnaaChecked
import Derived.Deep.QuietTactic
import Derived.BigQuiet
import Derived.Deep.RegionHeld3
namespace Go.Proofs.Ytkaaebpoljnbnaa
open Go.ChangeShapes Go.WideShapes Go.ChangeAt Go.RowKit
set_option linter.unusedVariables false
set_option linter.unusedSimpArgs false
structure OddsR where
  f0 : Int
  f1 : Int

/-- a slice of Odds that is read -/
def ReadsOdds (w : World) (A : Option Addr) (n : Nat) (xs : List OddsR) : Prop :=
  xs.length = n ∧ ∀ k, k < n → ∃ ad, A = some ad ∧ w.cell? (ad.add (k * 2)) = some (.int .i64 (xs.getD k ⟨0, 0⟩).f0) ∧ w.cell? ⟨(ad.add (k * 2)).block, (ad.add (k * 2)).off + 1, none⟩ = some (.int .i64 (xs.getD k ⟨0, 0⟩).f1)
theorem ReadsOdds.in_ {w w' : World} {A : Option Addr} {n : Nat} {xs : List OddsR} (h : ReadsOdds w A n xs) (hi : In w.heap.size w w') : ReadsOdds w' A n xs := by
  refine ⟨h.1, fun k hk => ?_⟩
  obtain ⟨ad, hA, h0, h1⟩ := h.2 k hk
  exact ⟨ad, hA, cell_in h0 hi, cell_in h1 hi⟩
theorem ReadsOdds.below {w w' : World} {A : Option Addr} {n : Nat} {xs : List OddsR} (h : ReadsOdds w A n xs) (hb : Below w.heap.size w w') : ReadsOdds w' A n xs := h.in_ ⟨hb, hb.size⟩
theorem ReadsOdds.step {w w' : World} {A : Option Addr} {n : Nat} {xs : List OddsR} (h : ReadsOdds w A n xs) (hb : Below w.heap.size w w') : ReadsOdds w' A n xs := h.below hb
theorem ReadsOdds.alloc {w : World} {A : Option Addr} {n : Nat} {xs : List OddsR} (h : ReadsOdds w A n xs) (o : Obj) : ReadsOdds (w.alloc o) A n xs := h.in_ ((In.refl w).alloc o)
theorem ReadsOdds.drew {w : World} {A : Option Addr} {n : Nat} {xs : List OddsR} (h : ReadsOdds w A n xs) : ReadsOdds w.drew A n xs := h.in_ (In.refl w).drew
/-- block g holds these Oddss -/
def OwnOdds (w : World) (g n : Nat) (xs : List OddsR) : Prop :=
  ∃ cur : Array Value, Blk w g 44 cur ∧ cur.size = n * 2 ∧ xs.length = n ∧ ∀ t, t < n → cur[t * 2]? = some (.int .i64 (xs.getD t ⟨0, 0⟩).f0) ∧ cur[t * 2 + 1]? = some (.int .i64 (xs.getD t ⟨0, 0⟩).f1)
theorem OwnOdds.reads {w : World} {g n : Nat} {xs : List OddsR} (h : OwnOdds w g n xs) : ReadsOdds w (some ⟨g, 0, none⟩) n xs := by
  obtain ⟨cur, hb, hs, hl, hc⟩ := h
  refine ⟨hl, fun k hk => ⟨_, rfl, ?_⟩⟩
  have := hc k hk
  simp only [Addr.add_lit, Nat.zero_add, hb.cell]
  exact this
theorem OwnOdds.below {w w' : World} {g n B : Nat} {xs : List OddsR} (h : OwnOdds w g n xs) (hb : Below B w w') (hg : g < B) : OwnOdds w' g n xs := by
  obtain ⟨cur, hk, r⟩ := h
  exact ⟨cur, hk.below hb hg, r⟩
theorem eqheldOdds {w w' : World} {a b : Addr} {k : Nat} {x0 : Int} {x1 : Int} (hi : In w.heap.size w w') (ha : w.cell? (a.add (k * 2)) = some (.int .i64 x0) ∧ w.cell? ⟨(a.add (k * 2)).block, (a.add (k * 2)).off + 1, none⟩ = some (.int .i64 x1)) (hb : w.cell? (b.add (k * 2)) = some (.int .i64 x0) ∧ w.cell? ⟨(b.add (k * 2)).block, (b.add (k * 2)).off + 1, none⟩ = some (.int .i64 x1)) :
    In w.heap.size w w' ∧ w'.cell? (a.add (k * 2)) = some (.int .i64 x0) ∧ w'.cell? ⟨(a.add (k * 2)).block, (a.add (k * 2)).off + 1, none⟩ = some (.int .i64 x1) ∧ w'.cell? (b.add (k * 2)) = some (.int .i64 x0) ∧ w'.cell? ⟨(b.add (k * 2)).block, (b.add (k * 2)).off + 1, none⟩ = some (.int .i64 x1) := by
  obtain ⟨a0, a1⟩ := ha
  obtain ⟨b0, b1⟩ := hb
  exact ⟨hi, cell_in a0 hi, cell_in a1 hi, cell_in b0 hi, cell_in b1 hi⟩
theorem infoOdds : (Try.prog.info? 44).map (fun i => (i.zero, i.size)) = some (some (.agg #[.int .i64 0, .int .i64 0]), 2) := by kernel_rfl
theorem bytesOdds : (Try.prog.info? 44).map (fun i => decide (i.bytes ≤ 64)) = some true := by kernel_rfl
/-- what a call answers that makes a row of Oddss of its own -/
def RowOdds (xs : List OddsR) (w : World) (e : Ending) (w' : World) : Prop :=
  ∃ g, e = .returned (.slice (some ⟨g, 0, none⟩) xs.length xs.length) ∧ OwnOdds w' g xs.length xs ∧ w.heap.size ≤ g ∧ Below w.heap.size w w'
end Go.Proofs.Ytkaaebpoljnbnaa
