/- Drawers of flat structs. -/
import Derived.Test.YtkaaebpoljnbnaaCur
import Derived.Test.YtkaaebpoljnbnaaAt
import Derived.Test.YtkaaebpoljnbnaaVal
namespace Go.Proofs.Ytkaaebpoljnbnaa
open Go.ChangeShapes Go.WideShapes Go.ChangeAt Go.RowKit
set_option linter.unusedVariables false
set_option linter.unusedSimpArgs false
set_option maxHeartbeats 2000000

theorem bytes_of {w : World} {a : Option Addr} {len : Nat} (h : ReadsU w a len) : Bytes w w.heap.size a len :=
  ⟨h.1, fun k hk => by
    obtain ⟨ad, x, e, hc, h0, h1⟩ := h.2 k hk
    exact ⟨ad, x, e, by have := cell_lt hc; rw [block_of_add] at this; exact this, hc, h0, by omega⟩⟩
theorem Bytes.alloc' {w : World} {a : Option Addr} {len : Nat} (h : Bytes w w.heap.size a len) (o : Obj) : Bytes (w.alloc o) (w.alloc o).heap.size a len :=
  ⟨h.1, fun k hk => by
    obtain ⟨ad, x, e, hb, hc, h0⟩ := h.2 k hk
    exact ⟨ad, x, e, by simp; omega, (World.cell?_alloc_lt _ _ _ (by rw [block_of_add]; exact hb)).trans hc, h0⟩⟩
theorem Cur.far {B g : Nat} {w : World} {p : Addr} (h : Cur B g w) (hne : g ≠ p.block) (hp : B ≤ p.block) (v : Value) : Cur B g (w.setCell p v) := by
  obtain ⟨a, len, cap, i, x, hblk, hg, hi, hby⟩ := h
  exact ⟨a, len, cap, i, x, hblk.far hne v, hg, hi, hby.keep fun q hq => World.cell?_setCell_other _ _ _ _ (fun e => by subst e; omega)⟩
def GotRack (B g : Nat) (W0 : World) (e : Ending) (w' : World) : Prop := ∃ x0 x1 x2 : Int, ((0 ≤ x0 ∧ x0 < 60) ∧ (0 ≤ x1 ∧ x1 < 30) ∧ (0 ≤ x2 ∧ x2 < 15)) ∧ e = .returned (.agg #[.int .i64 x0, .int .i64 x1, .int .i64 x2]) ∧ St B g W0 w'
def GotCard (B g : Nat) (W0 : World) (e : Ending) (w' : World) : Prop := ∃ x0 x1 : Int, ((0 ≤ x0 ∧ x0 < 10) ∧ (0 ≤ x1 ∧ x1 < 5)) ∧ e = .returned (.agg #[.int .i64 x0, .int .i64 x1]) ∧ St B g W0 w'
def GotDough (B g : Nat) (W0 : World) (e : Ending) (w' : World) : Prop := ∃ x0 x1 x2 : Int, ((0 ≤ x0 ∧ x0 < 250) ∧ (0 ≤ x1 ∧ x1 < 10) ∧ (0 ≤ x2 ∧ x2 < 250)) ∧ e = .returned (.agg #[.int .i64 (550 + x0), .int .i64 (15 + x1), .int .i64 x2]) ∧ St B g W0 w'
def GotLoaf (B g : Nat) (W0 : World) (e : Ending) (w' : World) : Prop := ∃ x0 x1 : Int, ((0 ≤ x0 ∧ x0 < 250) ∧ (0 ≤ x1 ∧ x1 < 25)) ∧ e = .returned (.agg #[.int .i64 (50 + 4 * x0), .int .i64 x1]) ∧ St B g W0 w'
def GotCost (B g : Nat) (W0 : World) (e : Ending) (w' : World) : Prop := ∃ x0 x1 x2 : Int, ((0 ≤ x0 ∧ x0 < 250) ∧ (0 ≤ x1 ∧ x1 < 250) ∧ (0 ≤ x2 ∧ x2 < 100)) ∧ e = .returned (.agg #[.int .i64 x0, .int .i64 x1, .int .i64 x2]) ∧ St B g W0 w'
def GotLeaven (B g : Nat) (W0 : World) (e : Ending) (w' : World) : Prop := ∃ x0 x1 : Int, ((0 ≤ x0 ∧ x0 < 250) ∧ (0 ≤ x1 ∧ x1 < 20)) ∧ e = .returned (.agg #[.int .i64 (1 + x0), .int .i64 x1]) ∧ St B g W0 w'
set_option maxHeartbeats 1000000 in
theorem mkLeaven_s (B g : Nat) (W0 w : World) (h : St B g W0 w) : Calls Try.prog 38 #[.pointer (some ⟨g, 0, none⟩)] w (GotLeaven B g W0) := by
  obtain ⟨r, hr⟩ : ∃ r, r = w.heap.size := ⟨_, rfl⟩
  have hgl := h.1.lt
  have hge := h.1.ge
  have hgr : g ≠ r := by omega
  have hrw : w.heap.size ≤ r := by omega
  have hBr : B ≤ r := by omega
  have kr : Blk (w.alloc (.cells #[.int .i64 0, .int .i64 0] 25)) r 25 #[.int .i64 0, .int .i64 0] := by rw [hr]; exact Blk.new w _ _
  have hs0 : St B g (w.alloc (.cells #[.int .i64 0, .int .i64 0] 25)) (w.alloc (.cells #[.int .i64 0, .int .i64 0] 25)) := ⟨h.1.alloc _, only_refl _ _⟩
  have hg0 : w.grownBy (w.alloc (.cells #[.int .i64 0, .int .i64 0] 25)) (some g) := only_alloc (only_refl w (some g)) _
  have HH := Lib.hid h.2
  go_enter Try.func38, Try.ntmps38
  go_wp2_with fail
  rw [← hr]
  clear hr
  refine (below_s 250 B g (w.alloc (.cells #[.int .i64 0, .int .i64 0] 25)) _ (by omega) (by omega) hs0).mono ?_
  rintro _ w1 ⟨x0, ⟨hx00, hx01⟩, rfl, hs1⟩
  go_wp2_with fail
  refine (below_s 20 B g (w.alloc (.cells #[.int .i64 0, .int .i64 0] 25)) _ (by omega) (by omega) hs1).mono ?_
  rintro _ w2 ⟨x1, ⟨hx10, hx11⟩, rfl, hs2⟩
  have hgw := only_trans hg0 hs2.2
  have hcur := hs2.1
  have km := kr.grown hs2.2 (fun e => by injection e with e; omega)
  have cr0 := km.cell 0
  have zr0 := km.frozen 0
  have cr1 := km.cell 1
  have zr1 := km.frozen 1
  have HS : Hid (St B g W0 ((w2.setCell ⟨r, 0, none⟩ (.int .i64 (1 + x0))).setCell ⟨r, 1, none⟩ (.int .i64 x1))) := Lib.hid ⟨((hcur.far (p := ⟨r, 0, none⟩) hgr hBr (.int .i64 (1 + x0))).far (p := ⟨r, 1, none⟩) hgr hBr (.int .i64 x1)), only_trans HH.out (only_setCell (only_setCell hgw (p := ⟨r, 0, none⟩) (.inr hrw) (.int .i64 (1 + x0))) (p := ⟨r, 1, none⟩) (.inr hrw) (.int .i64 x1))⟩
  have HK : Hid (((w2.setCell ⟨r, 0, none⟩ (.int .i64 (1 + x0))).setCell ⟨r, 1, none⟩ (.int .i64 x1)).cell? ⟨r, 0, none⟩ = some (.int .i64 (1 + x0)) ∧ ((w2.setCell ⟨r, 0, none⟩ (.int .i64 (1 + x0))).setCell ⟨r, 1, none⟩ (.int .i64 x1)).cell? ⟨r, 1, none⟩ = some (.int .i64 x1)) := Lib.hid (by
    have h := ((km.set_ 0 (.int .i64 (1 + x0))).set_ 1 (.int .i64 x1))
    have h0 := h.cell 0
    have h1 := h.cell 1
    exact ⟨by simpa using h0, by simpa using h1⟩)
  clear kr km hs0 hg0 hgw hcur hgl hge hrw hBr hs1 hs2
  simp at cr0 cr1
  go_wp2
  obtain ⟨hk0, hk1⟩ := HK.out
  exact bodyPost_ret (v := .agg #[.int .i64 (1 + x0), .int .i64 x1]) (by simp [results, Try.results38, go_sem, hk0, hk1]) rfl ⟨x0, x1, ⟨⟨hx00, hx01⟩, ⟨hx10, hx11⟩⟩, rfl, HS.out⟩
set_option maxHeartbeats 1000000 in
theorem drawLeaven (a : Option Addr) (len cap : Nat) (w : World) (hb : Bytes w w.heap.size a len) :
    Calls Try.prog 8 #[.slice a len cap] w (fun e w' => ∃ x0 x1 : Int, ((0 ≤ x0 ∧ x0 < 250) ∧ (0 ≤ x1 ∧ x1 < 20)) ∧ e = .returned (.agg #[.int .i64 (1 + x0), .int .i64 x1]) ∧ Below w.heap.size w w') := by
  obtain ⟨r, hr⟩ : ∃ r, r = w.heap.size := ⟨_, rfl⟩
  have kr : Blk (w.alloc (.cells #[.int .i64 0, .int .i64 0] 25)) r 25 #[.int .i64 0, .int .i64 0] := by rw [hr]; exact Blk.new w _ _
  have hb1 : Bytes (w.alloc (.cells #[.int .i64 0, .int .i64 0] 25)) (w.alloc (.cells #[.int .i64 0, .int .i64 0] 25)).heap.size a len := hb.alloc' _
  have hB0 : Below w.heap.size w (w.alloc (.cells #[.int .i64 0, .int .i64 0] 25)) := (Below.refl _ w).alloc (Nat.le_refl _) _
  have hrs : r < (w.alloc (.cells #[.int .i64 0, .int .i64 0] 25)).heap.size := kr.lt
  have HN := Lib.hid (new_s a len cap (w.alloc (.cells #[.int .i64 0, .int .i64 0] 25)) hb1)
  have hrw : w.heap.size ≤ r := by omega
  go_enter Try.func8, Try.ntmps8
  go_wp2_with fail
  rw [← hr]
  clear hr
  generalize (w.alloc (.cells #[.int .i64 0, .int .i64 0] 25)) = wa at *
  refine HN.out.mono ?_
  rintro _ w1 ⟨rfl, hc1, hbn⟩
  have k1 := kr.step hbn
  have hB1 := hB0.trans (hbn.mono hB0.size)
  go_wp2_with fail
  refine (mkLeaven_s wa.heap.size wa.heap.size w1 w1 ⟨hc1, only_refl _ _⟩).mono ?_
  rintro _ w2 ⟨x0, x1, hbd, rfl, hs⟩
  have k2 := k1.grown hs.2 (fun e => by injection e with e; omega)
  have hB2 : Below w.heap.size w w2 := hB1.trans (below_of_only hs.2 (Nat.le_trans (Nat.le_refl _) hB0.size) hB1.size)
  have cr0 := k2.cell 0
  have zr0 := k2.frozen 0
  have cr1 := k2.cell 1
  have zr1 := k2.frozen 1
  have HB : Hid (Below w.heap.size w ((w2.setCell ⟨r, 0, none⟩ (.int .i64 (1 + x0))).setCell ⟨r, 1, none⟩ (.int .i64 x1))) := Lib.hid ((hB2.setCell (p := ⟨r, 0, none⟩) hrw (.int .i64 (1 + x0))).setCell (p := ⟨r, 1, none⟩) hrw (.int .i64 x1))
  have HK : Hid (((w2.setCell ⟨r, 0, none⟩ (.int .i64 (1 + x0))).setCell ⟨r, 1, none⟩ (.int .i64 x1)).cell? ⟨r, 0, none⟩ = some (.int .i64 (1 + x0)) ∧ ((w2.setCell ⟨r, 0, none⟩ (.int .i64 (1 + x0))).setCell ⟨r, 1, none⟩ (.int .i64 x1)).cell? ⟨r, 1, none⟩ = some (.int .i64 x1)) := Lib.hid (by
    have h := ((k2.set_ 0 (.int .i64 (1 + x0))).set_ 1 (.int .i64 x1))
    have h0 := h.cell 0
    have h1 := h.cell 1
    exact ⟨by simpa using h0, by simpa using h1⟩)
  clear kr k1 k2 hb1 hB0 hB1 hB2 hs hc1 hbn hrs HN
  simp at cr0 cr1
  go_wp2
  obtain ⟨hk0, hk1⟩ := HK.out
  exact bodyPost_ret (v := .agg #[.int .i64 (1 + x0), .int .i64 x1]) (by simp [results, Try.results8, go_sem, hk0, hk1]) rfl ⟨x0, x1, hbd, rfl, HB.out⟩
end Go.Proofs.Ytkaaebpoljnbnaa
