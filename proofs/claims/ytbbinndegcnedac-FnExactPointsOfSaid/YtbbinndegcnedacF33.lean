/- Chapter 33: PointsOf, WinnerByPoints. -/
import Derived.Test.YtbbinndegcnedacC33
import Derived.Test.YtbbinndegcnedacGi
namespace Go.Proofs.Ytbbinndegcnedac
open Go.ChangeShapes Go.WideShapes Go.ChangeAt Go.RowKit
set_option linter.unusedVariables false
set_option linter.unusedSimpArgs false
set_option maxHeartbeats 2000000

/-- the points after the first t places of a vote on q breads -/
def addV (ps xs : List Int) (q : Nat) : Nat → List Int
  | 0 => ps
  | t + 1 => (addV ps xs q t).set (xs.getD t 0).toNat ((addV ps xs q t).getD (xs.getD t 0).toNat 0 + ((q : Int) - 1 - t))
theorem addV_len (ps xs : List Int) (q t : Nat) : (addV ps xs q t).length = ps.length := by
  induction t with
  | zero => rfl
  | succ t ih => rw [addV, List.length_set, ih]
theorem getD_set_ne' {l : List Int} {i j : Nat} {v : Int} (h : i ≠ j) : (l.set i v).getD j 0 = l.getD j 0 := by simp [List.getD_eq_getElem?_getD, List.getElem?_set, h]
theorem addV_at (ps xs : List Int) (q t b : Nat) (h : ∀ i, i < t → (xs.getD i 0).toNat ≠ b) : (addV ps xs q t).getD b 0 = ps.getD b 0 := by
  induction t with
  | zero => rfl
  | succ t ih => rw [addV, getD_set_ne' (h t (by omega)), ih fun i hi => h i (by omega)]
theorem addV_in (ps xs : List Int) (q t : Nat) (M : Int) (hq : q ≤ 6) (htq : t ≤ q) (h : ∀ i, i < ps.length → 0 ≤ ps.getD i 0 ∧ ps.getD i 0 ≤ M) : ∀ i, i < ps.length → 0 ≤ (addV ps xs q t).getD i 0 ∧ (addV ps xs q t).getD i 0 ≤ M + 6 * (t : Int) := by
  induction t with
  | zero => intro i hi; have := h i hi; simp only [addV]; omega
  | succ t ih =>
    intro i hi
    have h1 := ih (by omega)
    rw [addV]
    by_cases e : (xs.getD t 0).toNat = i
    · have h2 := h1 i hi
      have hl := addV_len ps xs q t
      rw [e]
      have : ((addV ps xs q t).set i ((addV ps xs q t).getD i 0 + ((q : Int) - 1 - t))).getD i 0 = (addV ps xs q t).getD i 0 + ((q : Int) - 1 - t) := by
        simp [List.getD_eq_getElem?_getD, List.getElem?_set, hl, hi]
      rw [this]; omega
    · rw [getD_set_ne' e]
      have h2 := h1 i hi
      omega
theorem getD_get {l : List Int} {i : Nat} (h : i < l.length) : l.getD i 0 = l[i] := by simp [List.getD_eq_getElem?_getD, h]
/-- the last place adds nothing -/
theorem addV_last (ps xs : List Int) (q : Nat) (hq : 1 ≤ q) : addV ps xs q q = addV ps xs q (q - 1) := by
  obtain ⟨t, rfl⟩ : ∃ t, q = t + 1 := ⟨q - 1, by omega⟩
  simp only [Nat.add_sub_cancel, addV]
  have : ((t + 1 : Nat) : Int) - 1 - t = 0 := by omega
  rw [this, Int.add_zero]
  apply List.ext_getElem
  · simp
  · intro i h1 h2
    rw [List.getElem_set]
    split
    · rename_i e
      subst e
      rw [List.length_set] at h1
      exact getD_get h1
    · rfl
def ptsTo (vs : List IntSR) (q : Nat) : Nat → List Int
  | 0 => List.replicate q 0
  | k + 1 => addV (ptsTo vs q k) (vs.getD k []) q (q - 1)
theorem ptsTo_len (vs : List IntSR) (q k : Nat) : (ptsTo vs q k).length = q := by
  induction k with
  | zero => simp [ptsTo]
  | succ k ih => rw [ptsTo, addV_len, ih]
theorem ptsTo_in (vs : List IntSR) (q k : Nat) (hq : q ≤ 6) : ∀ i, i < q → 0 ≤ (ptsTo vs q k).getD i 0 ∧ (ptsTo vs q k).getD i 0 ≤ 36 * (k : Int) := by
  induction k with
  | zero => intro i hi; simp [ptsTo, List.getD_eq_getElem?_getD, hi]
  | succ k ih =>
    intro i hi
    have := addV_in (ptsTo vs q k) (vs.getD k []) q (q - 1) (36 * (k : Int)) hq (by omega) (fun i hi => ih i (by rw [ptsTo_len] at hi; exact hi)) i (by rw [ptsTo_len]; exact hi)
    rw [ptsTo]
    omega
def PointsOfL (m : Nat) (vs : List IntSR) (n : Int) : List Int := if votesB m vs n then ptsTo vs n.toNat m else []
theorem PointsOfL_len (m : Nat) (vs : List IntSR) (n : Int) : (PointsOfL m vs n).length ≤ 60 := by
  unfold PointsOfL
  split
  · rename_i h
    have := votes_at h
    rw [ptsTo_len]; omega
  · simp
theorem OwnInt.put {w : World} {g n b : Nat} {ps : List Int} (h : OwnInt w g n ps) (v : Int) : OwnInt (w.setCell ⟨g, b, none⟩ (.int .i64 v)) g n (ps.set b v) := by
  have h1 := (World.ownsRow.stored h b (.int .i64 v)).1
  rw [← iv_set] at h1
  exact h1
theorem OwnInt.cellI {w : World} {g n b : Nat} {ps : List Int} (h : OwnInt w g n ps) (hb : b < n) : w.cell? ⟨g, b, none⟩ = some (.int .i64 (ps.getD b 0)) := by
  obtain ⟨ad, ha, hc⟩ := h.reads.2 b hb
  injection ha with ha
  subst ha
  rw [Addr.add_lit, Nat.zero_add] at hc
  exact hc
theorem OwnInt.free {w : World} {g n b : Nat} {ps : List Int} (h : OwnInt w g n ps) : w.frozen? ⟨g, b, none⟩ = false := World.ownsRow.frozenAt h b
theorem OwnInt.lenI {w : World} {g n : Nat} {ps : List Int} (h : OwnInt w g n ps) : ps.length = n := own_len_i h
/-- the points of one vote are added, in the points' own block -/
def Added (g n : Nat) (ps : List Int) (w : World) (e : Ending) (w' : World) : Prop := e = .returned (.tuple #[]) ∧ OwnInt w' g n ps ∧ w.grownBy w' (some g)
theorem iadd1 (g : Nat) (B : Option Addr) (d : Nat) (ps x : List Int) (w : World) (hM : ∀ i, i < 1 → 0 ≤ ps.getD i 0 ∧ ps.getD i 0 ≤ 1000) (ho : OwnInt w g 1 ps) (hr : ReadsI w B 1 x) (hx : ∀ k, k < 1 → 0 ≤ x.getD k 0 ∧ x.getD k 0 < 1) (hj : ∀ k j, k < 1 → j < 1 → x.getD k 0 = x.getD j 0 → k = j)
    (hne : ∀ a, B = some a → a.block ≠ g) : Calls Try.prog 50 #[.slice (some ⟨g, 0, none⟩) 1 1, .slice B 1 d] w (Added g 1 (addV ps x 1 0) w) := by
  have hl := ho.lenI
  have o0 : OwnInt w g 1 (addV ps x 1 0) := ho
  have hg : w.grownBy w (some g) := only_refl w _
  have OF : Hid (OwnInt w g 1 (addV ps x 1 0)) := Lib.hid o0
  have GF := Lib.hid hg
  clear o0 hg hx hj hM hl
  go_enter Try.func50, Try.ntmps50
  go_wp2
  go_end0
  exact ⟨rfl, OF.out, GF.out⟩
theorem iadd2 (g : Nat) (B : Option Addr) (d : Nat) (ps x : List Int) (w : World) (hM : ∀ i, i < 2 → 0 ≤ ps.getD i 0 ∧ ps.getD i 0 ≤ 1000) (ho : OwnInt w g 2 ps) (hr : ReadsI w B 2 x) (hx : ∀ k, k < 2 → 0 ≤ x.getD k 0 ∧ x.getD k 0 < 2) (hj : ∀ k j, k < 2 → j < 2 → x.getD k 0 = x.getD j 0 → k = j)
    (hne : ∀ a, B = some a → a.block ≠ g) : Calls Try.prog 50 #[.slice (some ⟨g, 0, none⟩) 2 2, .slice B 2 d] w (Added g 2 (addV ps x 2 1) w) := by
  have hl := ho.lenI
  obtain ⟨b, rfl, r0⟩ := hr.2 0 (by omega)
  have r00 : w.cell? b = some (.int .i64 (x.getD 0 0)) := by simpa [Addr.add] using r0
  have hne := hne _ rfl
  have x0 := hx 0 (by omega)
  obtain ⟨y0, hy0⟩ : ∃ y : Nat, x.getD 0 0 = (y : Int) := ⟨(x.getD 0 0).toNat, by omega⟩
  have k0 : (y0 : Int) < 2 := by omega
  have p0 := hM y0 (by omega)
  have c0 := ho.cellI (b := y0) (by omega)
  have z0 := ho.free (b := y0)
  have e0 : (addV ps x 2 0).getD y0 0 = ps.getD y0 0 := addV_at ps x 2 0 y0 (fun i hi => by
    have : False := by omega
    exact this.elim)
  have v0 : addV ps x 2 1 = (addV ps x 2 0).set y0 (ps.getD y0 0 + 1) := by
    have h := show addV ps x 2 1 = (addV ps x 2 0).set (x.getD 0 0).toNat ((addV ps x 2 0).getD (x.getD 0 0).toNat 0 + (((2 : Nat) : Int) - 1 - ((0 : Nat) : Int))) from rfl
    rw [h, hy0, Int.toNat_natCast, e0, show ((2 : Nat) : Int) - 1 - ((0 : Nat) : Int) = 1 from by omega]
  have o0 : OwnInt w g 2 (addV ps x 2 0) := ho
  have o1 : OwnInt (w.setCell ⟨g, y0, none⟩ (.int .i64 (ps.getD y0 0 + 1))) g 2 (addV ps x 2 1) := by rw [v0]; exact o0.put _
  have hg : w.grownBy (w.setCell ⟨g, y0, none⟩ (.int .i64 (ps.getD y0 0 + 1))) (some g) := only_setCell (p := ⟨g, y0, none⟩) (only_refl w _) (Or.inl rfl) _
  have OF : Hid (OwnInt (w.setCell ⟨g, y0, none⟩ (.int .i64 (ps.getD y0 0 + 1))) g 2 (addV ps x 2 1)) := Lib.hid o1
  have GF := Lib.hid hg
  rw [hy0] at r0
  rw [hy0] at r00
  clear o0 o1 v0 e0 hy0 x0 hg hx hj hM hl
  generalize ps.getD y0 0 = s0 at *
  go_enter Try.func50, Try.ntmps50
  go_wp2
  go_end0
  exact ⟨rfl, OF.out, GF.out⟩
theorem iadd3 (g : Nat) (B : Option Addr) (d : Nat) (ps x : List Int) (w : World) (hM : ∀ i, i < 3 → 0 ≤ ps.getD i 0 ∧ ps.getD i 0 ≤ 1000) (ho : OwnInt w g 3 ps) (hr : ReadsI w B 3 x) (hx : ∀ k, k < 3 → 0 ≤ x.getD k 0 ∧ x.getD k 0 < 3) (hj : ∀ k j, k < 3 → j < 3 → x.getD k 0 = x.getD j 0 → k = j)
    (hne : ∀ a, B = some a → a.block ≠ g) : Calls Try.prog 50 #[.slice (some ⟨g, 0, none⟩) 3 3, .slice B 3 d] w (Added g 3 (addV ps x 3 2) w) := by
  have hl := ho.lenI
  obtain ⟨b, rfl, r0⟩ := hr.2 0 (by omega)
  have r00 : w.cell? b = some (.int .i64 (x.getD 0 0)) := by simpa [Addr.add] using r0
  obtain ⟨b1, hb1, r1⟩ := hr.2 1 (by omega)
  obtain rfl := Option.some.inj hb1
  have hne := hne _ rfl
  have x0 := hx 0 (by omega)
  have x1 := hx 1 (by omega)
  have n10 : ¬ x.getD 1 0 = x.getD 0 0 := fun e => by have := hj 1 0 (by omega) (by omega) e; omega
  obtain ⟨y0, hy0⟩ : ∃ y : Nat, x.getD 0 0 = (y : Int) := ⟨(x.getD 0 0).toNat, by omega⟩
  obtain ⟨y1, hy1⟩ : ∃ y : Nat, x.getD 1 0 = (y : Int) := ⟨(x.getD 1 0).toNat, by omega⟩
  have k0 : (y0 : Int) < 3 := by omega
  have p0 := hM y0 (by omega)
  have c0 := ho.cellI (b := y0) (by omega)
  have z0 := ho.free (b := y0)
  have e0 : (addV ps x 3 0).getD y0 0 = ps.getD y0 0 := addV_at ps x 3 0 y0 (fun i hi => by
    have : False := by omega
    exact this.elim)
  have v0 : addV ps x 3 1 = (addV ps x 3 0).set y0 (ps.getD y0 0 + 2) := by
    have h := show addV ps x 3 1 = (addV ps x 3 0).set (x.getD 0 0).toNat ((addV ps x 3 0).getD (x.getD 0 0).toNat 0 + (((3 : Nat) : Int) - 1 - ((0 : Nat) : Int))) from rfl
    rw [h, hy0, Int.toNat_natCast, e0, show ((3 : Nat) : Int) - 1 - ((0 : Nat) : Int) = 2 from by omega]
  have k1 : (y1 : Int) < 3 := by omega
  have p1 := hM y1 (by omega)
  have c1 := ho.cellI (b := y1) (by omega)
  have z1 := ho.free (b := y1)
  have e1 : (addV ps x 3 1).getD y1 0 = ps.getD y1 0 := addV_at ps x 3 1 y1 (fun i hi => by
    have : i = 0 := by omega
    rcases this with rfl <;> omega)
  have v1 : addV ps x 3 2 = (addV ps x 3 1).set y1 (ps.getD y1 0 + 1) := by
    have h := show addV ps x 3 2 = (addV ps x 3 1).set (x.getD 1 0).toNat ((addV ps x 3 1).getD (x.getD 1 0).toNat 0 + (((3 : Nat) : Int) - 1 - ((1 : Nat) : Int))) from rfl
    rw [h, hy1, Int.toNat_natCast, e1, show ((3 : Nat) : Int) - 1 - ((1 : Nat) : Int) = 1 from by omega]
  have o0 : OwnInt w g 3 (addV ps x 3 0) := ho
  have o1 : OwnInt (w.setCell ⟨g, y0, none⟩ (.int .i64 (ps.getD y0 0 + 2))) g 3 (addV ps x 3 1) := by rw [v0]; exact o0.put _
  have o2 : OwnInt ((w.setCell ⟨g, y0, none⟩ (.int .i64 (ps.getD y0 0 + 2))).setCell ⟨g, y1, none⟩ (.int .i64 (ps.getD y1 0 + 1))) g 3 (addV ps x 3 2) := by rw [v1]; exact o1.put _
  have hg : w.grownBy ((w.setCell ⟨g, y0, none⟩ (.int .i64 (ps.getD y0 0 + 2))).setCell ⟨g, y1, none⟩ (.int .i64 (ps.getD y1 0 + 1))) (some g) := only_setCell (p := ⟨g, y1, none⟩) (only_setCell (p := ⟨g, y0, none⟩) (only_refl w _) (Or.inl rfl) _) (Or.inl rfl) _
  have OF : Hid (OwnInt ((w.setCell ⟨g, y0, none⟩ (.int .i64 (ps.getD y0 0 + 2))).setCell ⟨g, y1, none⟩ (.int .i64 (ps.getD y1 0 + 1))) g 3 (addV ps x 3 2)) := Lib.hid o2
  have GF := Lib.hid hg
  rw [hy0] at r0
  rw [hy1] at r1
  have rr1 : w.cell? ⟨b.block, b.off + 1, none⟩ = some (.int .i64 (y1 : Int)) := r1
  rw [hy0] at r00
  have m10 : ¬ y1 = y0 := by omega
  have m01 : ¬ y0 = y1 := by omega
  clear o0 o1 o2 v0 e0 hy0 x0 v1 e1 hy1 x1 n10 hg hx hj hM hl
  generalize ps.getD y0 0 = s0 at *
  generalize ps.getD y1 0 = s1 at *
  go_enter Try.func50, Try.ntmps50
  go_wp2
  go_end0
  exact ⟨rfl, OF.out, GF.out⟩
theorem iadd4 (g : Nat) (B : Option Addr) (d : Nat) (ps x : List Int) (w : World) (hM : ∀ i, i < 4 → 0 ≤ ps.getD i 0 ∧ ps.getD i 0 ≤ 1000) (ho : OwnInt w g 4 ps) (hr : ReadsI w B 4 x) (hx : ∀ k, k < 4 → 0 ≤ x.getD k 0 ∧ x.getD k 0 < 4) (hj : ∀ k j, k < 4 → j < 4 → x.getD k 0 = x.getD j 0 → k = j)
    (hne : ∀ a, B = some a → a.block ≠ g) : Calls Try.prog 50 #[.slice (some ⟨g, 0, none⟩) 4 4, .slice B 4 d] w (Added g 4 (addV ps x 4 3) w) := by
  have hl := ho.lenI
  obtain ⟨b, rfl, r0⟩ := hr.2 0 (by omega)
  have r00 : w.cell? b = some (.int .i64 (x.getD 0 0)) := by simpa [Addr.add] using r0
  obtain ⟨b1, hb1, r1⟩ := hr.2 1 (by omega)
  obtain rfl := Option.some.inj hb1
  obtain ⟨b2, hb2, r2⟩ := hr.2 2 (by omega)
  obtain rfl := Option.some.inj hb2
  have hne := hne _ rfl
  have x0 := hx 0 (by omega)
  have x1 := hx 1 (by omega)
  have x2 := hx 2 (by omega)
  have n10 : ¬ x.getD 1 0 = x.getD 0 0 := fun e => by have := hj 1 0 (by omega) (by omega) e; omega
  have n20 : ¬ x.getD 2 0 = x.getD 0 0 := fun e => by have := hj 2 0 (by omega) (by omega) e; omega
  have n21 : ¬ x.getD 2 0 = x.getD 1 0 := fun e => by have := hj 2 1 (by omega) (by omega) e; omega
  obtain ⟨y0, hy0⟩ : ∃ y : Nat, x.getD 0 0 = (y : Int) := ⟨(x.getD 0 0).toNat, by omega⟩
  obtain ⟨y1, hy1⟩ : ∃ y : Nat, x.getD 1 0 = (y : Int) := ⟨(x.getD 1 0).toNat, by omega⟩
  obtain ⟨y2, hy2⟩ : ∃ y : Nat, x.getD 2 0 = (y : Int) := ⟨(x.getD 2 0).toNat, by omega⟩
  have k0 : (y0 : Int) < 4 := by omega
  have p0 := hM y0 (by omega)
  have c0 := ho.cellI (b := y0) (by omega)
  have z0 := ho.free (b := y0)
  have e0 : (addV ps x 4 0).getD y0 0 = ps.getD y0 0 := addV_at ps x 4 0 y0 (fun i hi => by
    have : False := by omega
    exact this.elim)
  have v0 : addV ps x 4 1 = (addV ps x 4 0).set y0 (ps.getD y0 0 + 3) := by
    have h := show addV ps x 4 1 = (addV ps x 4 0).set (x.getD 0 0).toNat ((addV ps x 4 0).getD (x.getD 0 0).toNat 0 + (((4 : Nat) : Int) - 1 - ((0 : Nat) : Int))) from rfl
    rw [h, hy0, Int.toNat_natCast, e0, show ((4 : Nat) : Int) - 1 - ((0 : Nat) : Int) = 3 from by omega]
  have k1 : (y1 : Int) < 4 := by omega
  have p1 := hM y1 (by omega)
  have c1 := ho.cellI (b := y1) (by omega)
  have z1 := ho.free (b := y1)
  have e1 : (addV ps x 4 1).getD y1 0 = ps.getD y1 0 := addV_at ps x 4 1 y1 (fun i hi => by
    have : i = 0 := by omega
    rcases this with rfl <;> omega)
  have v1 : addV ps x 4 2 = (addV ps x 4 1).set y1 (ps.getD y1 0 + 2) := by
    have h := show addV ps x 4 2 = (addV ps x 4 1).set (x.getD 1 0).toNat ((addV ps x 4 1).getD (x.getD 1 0).toNat 0 + (((4 : Nat) : Int) - 1 - ((1 : Nat) : Int))) from rfl
    rw [h, hy1, Int.toNat_natCast, e1, show ((4 : Nat) : Int) - 1 - ((1 : Nat) : Int) = 2 from by omega]
  have k2 : (y2 : Int) < 4 := by omega
  have p2 := hM y2 (by omega)
  have c2 := ho.cellI (b := y2) (by omega)
  have z2 := ho.free (b := y2)
  have e2 : (addV ps x 4 2).getD y2 0 = ps.getD y2 0 := addV_at ps x 4 2 y2 (fun i hi => by
    have : i = 0 ∨ i = 1 := by omega
    rcases this with rfl | rfl <;> omega)
  have v2 : addV ps x 4 3 = (addV ps x 4 2).set y2 (ps.getD y2 0 + 1) := by
    have h := show addV ps x 4 3 = (addV ps x 4 2).set (x.getD 2 0).toNat ((addV ps x 4 2).getD (x.getD 2 0).toNat 0 + (((4 : Nat) : Int) - 1 - ((2 : Nat) : Int))) from rfl
    rw [h, hy2, Int.toNat_natCast, e2, show ((4 : Nat) : Int) - 1 - ((2 : Nat) : Int) = 1 from by omega]
  have o0 : OwnInt w g 4 (addV ps x 4 0) := ho
  have o1 : OwnInt (w.setCell ⟨g, y0, none⟩ (.int .i64 (ps.getD y0 0 + 3))) g 4 (addV ps x 4 1) := by rw [v0]; exact o0.put _
  have o2 : OwnInt ((w.setCell ⟨g, y0, none⟩ (.int .i64 (ps.getD y0 0 + 3))).setCell ⟨g, y1, none⟩ (.int .i64 (ps.getD y1 0 + 2))) g 4 (addV ps x 4 2) := by rw [v1]; exact o1.put _
  have o3 : OwnInt (((w.setCell ⟨g, y0, none⟩ (.int .i64 (ps.getD y0 0 + 3))).setCell ⟨g, y1, none⟩ (.int .i64 (ps.getD y1 0 + 2))).setCell ⟨g, y2, none⟩ (.int .i64 (ps.getD y2 0 + 1))) g 4 (addV ps x 4 3) := by rw [v2]; exact o2.put _
  have hg : w.grownBy (((w.setCell ⟨g, y0, none⟩ (.int .i64 (ps.getD y0 0 + 3))).setCell ⟨g, y1, none⟩ (.int .i64 (ps.getD y1 0 + 2))).setCell ⟨g, y2, none⟩ (.int .i64 (ps.getD y2 0 + 1))) (some g) := only_setCell (p := ⟨g, y2, none⟩) (only_setCell (p := ⟨g, y1, none⟩) (only_setCell (p := ⟨g, y0, none⟩) (only_refl w _) (Or.inl rfl) _) (Or.inl rfl) _) (Or.inl rfl) _
  have OF : Hid (OwnInt (((w.setCell ⟨g, y0, none⟩ (.int .i64 (ps.getD y0 0 + 3))).setCell ⟨g, y1, none⟩ (.int .i64 (ps.getD y1 0 + 2))).setCell ⟨g, y2, none⟩ (.int .i64 (ps.getD y2 0 + 1))) g 4 (addV ps x 4 3)) := Lib.hid o3
  have GF := Lib.hid hg
  rw [hy0] at r0
  rw [hy1] at r1
  have rr1 : w.cell? ⟨b.block, b.off + 1, none⟩ = some (.int .i64 (y1 : Int)) := r1
  rw [hy2] at r2
  have rr2 : w.cell? ⟨b.block, b.off + 2, none⟩ = some (.int .i64 (y2 : Int)) := r2
  rw [hy0] at r00
  have m10 : ¬ y1 = y0 := by omega
  have m01 : ¬ y0 = y1 := by omega
  have m20 : ¬ y2 = y0 := by omega
  have m02 : ¬ y0 = y2 := by omega
  have m21 : ¬ y2 = y1 := by omega
  have m12 : ¬ y1 = y2 := by omega
  clear o0 o1 o2 o3 v0 e0 hy0 x0 v1 e1 hy1 x1 v2 e2 hy2 x2 n10 n20 n21 hg hx hj hM hl
  generalize ps.getD y0 0 = s0 at *
  generalize ps.getD y1 0 = s1 at *
  generalize ps.getD y2 0 = s2 at *
  go_enter Try.func50, Try.ntmps50
  go_wp2
  go_end0
  exact ⟨rfl, OF.out, GF.out⟩
theorem iadd5 (g : Nat) (B : Option Addr) (d : Nat) (ps x : List Int) (w : World) (hM : ∀ i, i < 5 → 0 ≤ ps.getD i 0 ∧ ps.getD i 0 ≤ 1000) (ho : OwnInt w g 5 ps) (hr : ReadsI w B 5 x) (hx : ∀ k, k < 5 → 0 ≤ x.getD k 0 ∧ x.getD k 0 < 5) (hj : ∀ k j, k < 5 → j < 5 → x.getD k 0 = x.getD j 0 → k = j)
    (hne : ∀ a, B = some a → a.block ≠ g) : Calls Try.prog 50 #[.slice (some ⟨g, 0, none⟩) 5 5, .slice B 5 d] w (Added g 5 (addV ps x 5 4) w) := by
  have hl := ho.lenI
  obtain ⟨b, rfl, r0⟩ := hr.2 0 (by omega)
  have r00 : w.cell? b = some (.int .i64 (x.getD 0 0)) := by simpa [Addr.add] using r0
  obtain ⟨b1, hb1, r1⟩ := hr.2 1 (by omega)
  obtain rfl := Option.some.inj hb1
  obtain ⟨b2, hb2, r2⟩ := hr.2 2 (by omega)
  obtain rfl := Option.some.inj hb2
  obtain ⟨b3, hb3, r3⟩ := hr.2 3 (by omega)
  obtain rfl := Option.some.inj hb3
  have hne := hne _ rfl
  have x0 := hx 0 (by omega)
  have x1 := hx 1 (by omega)
  have x2 := hx 2 (by omega)
  have x3 := hx 3 (by omega)
  have n10 : ¬ x.getD 1 0 = x.getD 0 0 := fun e => by have := hj 1 0 (by omega) (by omega) e; omega
  have n20 : ¬ x.getD 2 0 = x.getD 0 0 := fun e => by have := hj 2 0 (by omega) (by omega) e; omega
  have n21 : ¬ x.getD 2 0 = x.getD 1 0 := fun e => by have := hj 2 1 (by omega) (by omega) e; omega
  have n30 : ¬ x.getD 3 0 = x.getD 0 0 := fun e => by have := hj 3 0 (by omega) (by omega) e; omega
  have n31 : ¬ x.getD 3 0 = x.getD 1 0 := fun e => by have := hj 3 1 (by omega) (by omega) e; omega
  have n32 : ¬ x.getD 3 0 = x.getD 2 0 := fun e => by have := hj 3 2 (by omega) (by omega) e; omega
  obtain ⟨y0, hy0⟩ : ∃ y : Nat, x.getD 0 0 = (y : Int) := ⟨(x.getD 0 0).toNat, by omega⟩
  obtain ⟨y1, hy1⟩ : ∃ y : Nat, x.getD 1 0 = (y : Int) := ⟨(x.getD 1 0).toNat, by omega⟩
  obtain ⟨y2, hy2⟩ : ∃ y : Nat, x.getD 2 0 = (y : Int) := ⟨(x.getD 2 0).toNat, by omega⟩
  obtain ⟨y3, hy3⟩ : ∃ y : Nat, x.getD 3 0 = (y : Int) := ⟨(x.getD 3 0).toNat, by omega⟩
  have k0 : (y0 : Int) < 5 := by omega
  have p0 := hM y0 (by omega)
  have c0 := ho.cellI (b := y0) (by omega)
  have z0 := ho.free (b := y0)
  have e0 : (addV ps x 5 0).getD y0 0 = ps.getD y0 0 := addV_at ps x 5 0 y0 (fun i hi => by
    have : False := by omega
    exact this.elim)
  have v0 : addV ps x 5 1 = (addV ps x 5 0).set y0 (ps.getD y0 0 + 4) := by
    have h := show addV ps x 5 1 = (addV ps x 5 0).set (x.getD 0 0).toNat ((addV ps x 5 0).getD (x.getD 0 0).toNat 0 + (((5 : Nat) : Int) - 1 - ((0 : Nat) : Int))) from rfl
    rw [h, hy0, Int.toNat_natCast, e0, show ((5 : Nat) : Int) - 1 - ((0 : Nat) : Int) = 4 from by omega]
  have k1 : (y1 : Int) < 5 := by omega
  have p1 := hM y1 (by omega)
  have c1 := ho.cellI (b := y1) (by omega)
  have z1 := ho.free (b := y1)
  have e1 : (addV ps x 5 1).getD y1 0 = ps.getD y1 0 := addV_at ps x 5 1 y1 (fun i hi => by
    have : i = 0 := by omega
    rcases this with rfl <;> omega)
  have v1 : addV ps x 5 2 = (addV ps x 5 1).set y1 (ps.getD y1 0 + 3) := by
    have h := show addV ps x 5 2 = (addV ps x 5 1).set (x.getD 1 0).toNat ((addV ps x 5 1).getD (x.getD 1 0).toNat 0 + (((5 : Nat) : Int) - 1 - ((1 : Nat) : Int))) from rfl
    rw [h, hy1, Int.toNat_natCast, e1, show ((5 : Nat) : Int) - 1 - ((1 : Nat) : Int) = 3 from by omega]
  have k2 : (y2 : Int) < 5 := by omega
  have p2 := hM y2 (by omega)
  have c2 := ho.cellI (b := y2) (by omega)
  have z2 := ho.free (b := y2)
  have e2 : (addV ps x 5 2).getD y2 0 = ps.getD y2 0 := addV_at ps x 5 2 y2 (fun i hi => by
    have : i = 0 ∨ i = 1 := by omega
    rcases this with rfl | rfl <;> omega)
  have v2 : addV ps x 5 3 = (addV ps x 5 2).set y2 (ps.getD y2 0 + 2) := by
    have h := show addV ps x 5 3 = (addV ps x 5 2).set (x.getD 2 0).toNat ((addV ps x 5 2).getD (x.getD 2 0).toNat 0 + (((5 : Nat) : Int) - 1 - ((2 : Nat) : Int))) from rfl
    rw [h, hy2, Int.toNat_natCast, e2, show ((5 : Nat) : Int) - 1 - ((2 : Nat) : Int) = 2 from by omega]
  have k3 : (y3 : Int) < 5 := by omega
  have p3 := hM y3 (by omega)
  have c3 := ho.cellI (b := y3) (by omega)
  have z3 := ho.free (b := y3)
  have e3 : (addV ps x 5 3).getD y3 0 = ps.getD y3 0 := addV_at ps x 5 3 y3 (fun i hi => by
    have : i = 0 ∨ i = 1 ∨ i = 2 := by omega
    rcases this with rfl | rfl | rfl <;> omega)
  have v3 : addV ps x 5 4 = (addV ps x 5 3).set y3 (ps.getD y3 0 + 1) := by
    have h := show addV ps x 5 4 = (addV ps x 5 3).set (x.getD 3 0).toNat ((addV ps x 5 3).getD (x.getD 3 0).toNat 0 + (((5 : Nat) : Int) - 1 - ((3 : Nat) : Int))) from rfl
    rw [h, hy3, Int.toNat_natCast, e3, show ((5 : Nat) : Int) - 1 - ((3 : Nat) : Int) = 1 from by omega]
  have o0 : OwnInt w g 5 (addV ps x 5 0) := ho
  have o1 : OwnInt (w.setCell ⟨g, y0, none⟩ (.int .i64 (ps.getD y0 0 + 4))) g 5 (addV ps x 5 1) := by rw [v0]; exact o0.put _
  have o2 : OwnInt ((w.setCell ⟨g, y0, none⟩ (.int .i64 (ps.getD y0 0 + 4))).setCell ⟨g, y1, none⟩ (.int .i64 (ps.getD y1 0 + 3))) g 5 (addV ps x 5 2) := by rw [v1]; exact o1.put _
  have o3 : OwnInt (((w.setCell ⟨g, y0, none⟩ (.int .i64 (ps.getD y0 0 + 4))).setCell ⟨g, y1, none⟩ (.int .i64 (ps.getD y1 0 + 3))).setCell ⟨g, y2, none⟩ (.int .i64 (ps.getD y2 0 + 2))) g 5 (addV ps x 5 3) := by rw [v2]; exact o2.put _
  have o4 : OwnInt ((((w.setCell ⟨g, y0, none⟩ (.int .i64 (ps.getD y0 0 + 4))).setCell ⟨g, y1, none⟩ (.int .i64 (ps.getD y1 0 + 3))).setCell ⟨g, y2, none⟩ (.int .i64 (ps.getD y2 0 + 2))).setCell ⟨g, y3, none⟩ (.int .i64 (ps.getD y3 0 + 1))) g 5 (addV ps x 5 4) := by rw [v3]; exact o3.put _
  have hg : w.grownBy ((((w.setCell ⟨g, y0, none⟩ (.int .i64 (ps.getD y0 0 + 4))).setCell ⟨g, y1, none⟩ (.int .i64 (ps.getD y1 0 + 3))).setCell ⟨g, y2, none⟩ (.int .i64 (ps.getD y2 0 + 2))).setCell ⟨g, y3, none⟩ (.int .i64 (ps.getD y3 0 + 1))) (some g) := only_setCell (p := ⟨g, y3, none⟩) (only_setCell (p := ⟨g, y2, none⟩) (only_setCell (p := ⟨g, y1, none⟩) (only_setCell (p := ⟨g, y0, none⟩) (only_refl w _) (Or.inl rfl) _) (Or.inl rfl) _) (Or.inl rfl) _) (Or.inl rfl) _
  have OF : Hid (OwnInt ((((w.setCell ⟨g, y0, none⟩ (.int .i64 (ps.getD y0 0 + 4))).setCell ⟨g, y1, none⟩ (.int .i64 (ps.getD y1 0 + 3))).setCell ⟨g, y2, none⟩ (.int .i64 (ps.getD y2 0 + 2))).setCell ⟨g, y3, none⟩ (.int .i64 (ps.getD y3 0 + 1))) g 5 (addV ps x 5 4)) := Lib.hid o4
  have GF := Lib.hid hg
  rw [hy0] at r0
  rw [hy1] at r1
  have rr1 : w.cell? ⟨b.block, b.off + 1, none⟩ = some (.int .i64 (y1 : Int)) := r1
  rw [hy2] at r2
  have rr2 : w.cell? ⟨b.block, b.off + 2, none⟩ = some (.int .i64 (y2 : Int)) := r2
  rw [hy3] at r3
  have rr3 : w.cell? ⟨b.block, b.off + 3, none⟩ = some (.int .i64 (y3 : Int)) := r3
  rw [hy0] at r00
  have m10 : ¬ y1 = y0 := by omega
  have m01 : ¬ y0 = y1 := by omega
  have m20 : ¬ y2 = y0 := by omega
  have m02 : ¬ y0 = y2 := by omega
  have m21 : ¬ y2 = y1 := by omega
  have m12 : ¬ y1 = y2 := by omega
  have m30 : ¬ y3 = y0 := by omega
  have m03 : ¬ y0 = y3 := by omega
  have m31 : ¬ y3 = y1 := by omega
  have m13 : ¬ y1 = y3 := by omega
  have m32 : ¬ y3 = y2 := by omega
  have m23 : ¬ y2 = y3 := by omega
  clear o0 o1 o2 o3 o4 v0 e0 hy0 x0 v1 e1 hy1 x1 v2 e2 hy2 x2 v3 e3 hy3 x3 n10 n20 n21 n30 n31 n32 hg hx hj hM hl
  generalize ps.getD y0 0 = s0 at *
  generalize ps.getD y1 0 = s1 at *
  generalize ps.getD y2 0 = s2 at *
  generalize ps.getD y3 0 = s3 at *
  go_enter Try.func50, Try.ntmps50
  go_wp2
  go_end0
  exact ⟨rfl, OF.out, GF.out⟩
theorem iadd6 (g : Nat) (B : Option Addr) (d : Nat) (ps x : List Int) (w : World) (hM : ∀ i, i < 6 → 0 ≤ ps.getD i 0 ∧ ps.getD i 0 ≤ 1000) (ho : OwnInt w g 6 ps) (hr : ReadsI w B 6 x) (hx : ∀ k, k < 6 → 0 ≤ x.getD k 0 ∧ x.getD k 0 < 6) (hj : ∀ k j, k < 6 → j < 6 → x.getD k 0 = x.getD j 0 → k = j)
    (hne : ∀ a, B = some a → a.block ≠ g) : Calls Try.prog 50 #[.slice (some ⟨g, 0, none⟩) 6 6, .slice B 6 d] w (Added g 6 (addV ps x 6 5) w) := by
  have hl := ho.lenI
  obtain ⟨b, rfl, r0⟩ := hr.2 0 (by omega)
  have r00 : w.cell? b = some (.int .i64 (x.getD 0 0)) := by simpa [Addr.add] using r0
  obtain ⟨b1, hb1, r1⟩ := hr.2 1 (by omega)
  obtain rfl := Option.some.inj hb1
  obtain ⟨b2, hb2, r2⟩ := hr.2 2 (by omega)
  obtain rfl := Option.some.inj hb2
  obtain ⟨b3, hb3, r3⟩ := hr.2 3 (by omega)
  obtain rfl := Option.some.inj hb3
  obtain ⟨b4, hb4, r4⟩ := hr.2 4 (by omega)
  obtain rfl := Option.some.inj hb4
  have hne := hne _ rfl
  have x0 := hx 0 (by omega)
  have x1 := hx 1 (by omega)
  have x2 := hx 2 (by omega)
  have x3 := hx 3 (by omega)
  have x4 := hx 4 (by omega)
  have n10 : ¬ x.getD 1 0 = x.getD 0 0 := fun e => by have := hj 1 0 (by omega) (by omega) e; omega
  have n20 : ¬ x.getD 2 0 = x.getD 0 0 := fun e => by have := hj 2 0 (by omega) (by omega) e; omega
  have n21 : ¬ x.getD 2 0 = x.getD 1 0 := fun e => by have := hj 2 1 (by omega) (by omega) e; omega
  have n30 : ¬ x.getD 3 0 = x.getD 0 0 := fun e => by have := hj 3 0 (by omega) (by omega) e; omega
  have n31 : ¬ x.getD 3 0 = x.getD 1 0 := fun e => by have := hj 3 1 (by omega) (by omega) e; omega
  have n32 : ¬ x.getD 3 0 = x.getD 2 0 := fun e => by have := hj 3 2 (by omega) (by omega) e; omega
  have n40 : ¬ x.getD 4 0 = x.getD 0 0 := fun e => by have := hj 4 0 (by omega) (by omega) e; omega
  have n41 : ¬ x.getD 4 0 = x.getD 1 0 := fun e => by have := hj 4 1 (by omega) (by omega) e; omega
  have n42 : ¬ x.getD 4 0 = x.getD 2 0 := fun e => by have := hj 4 2 (by omega) (by omega) e; omega
  have n43 : ¬ x.getD 4 0 = x.getD 3 0 := fun e => by have := hj 4 3 (by omega) (by omega) e; omega
  obtain ⟨y0, hy0⟩ : ∃ y : Nat, x.getD 0 0 = (y : Int) := ⟨(x.getD 0 0).toNat, by omega⟩
  obtain ⟨y1, hy1⟩ : ∃ y : Nat, x.getD 1 0 = (y : Int) := ⟨(x.getD 1 0).toNat, by omega⟩
  obtain ⟨y2, hy2⟩ : ∃ y : Nat, x.getD 2 0 = (y : Int) := ⟨(x.getD 2 0).toNat, by omega⟩
  obtain ⟨y3, hy3⟩ : ∃ y : Nat, x.getD 3 0 = (y : Int) := ⟨(x.getD 3 0).toNat, by omega⟩
  obtain ⟨y4, hy4⟩ : ∃ y : Nat, x.getD 4 0 = (y : Int) := ⟨(x.getD 4 0).toNat, by omega⟩
  have k0 : (y0 : Int) < 6 := by omega
  have p0 := hM y0 (by omega)
  have c0 := ho.cellI (b := y0) (by omega)
  have z0 := ho.free (b := y0)
  have e0 : (addV ps x 6 0).getD y0 0 = ps.getD y0 0 := addV_at ps x 6 0 y0 (fun i hi => by
    have : False := by omega
    exact this.elim)
  have v0 : addV ps x 6 1 = (addV ps x 6 0).set y0 (ps.getD y0 0 + 5) := by
    have h := show addV ps x 6 1 = (addV ps x 6 0).set (x.getD 0 0).toNat ((addV ps x 6 0).getD (x.getD 0 0).toNat 0 + (((6 : Nat) : Int) - 1 - ((0 : Nat) : Int))) from rfl
    rw [h, hy0, Int.toNat_natCast, e0, show ((6 : Nat) : Int) - 1 - ((0 : Nat) : Int) = 5 from by omega]
  have k1 : (y1 : Int) < 6 := by omega
  have p1 := hM y1 (by omega)
  have c1 := ho.cellI (b := y1) (by omega)
  have z1 := ho.free (b := y1)
  have e1 : (addV ps x 6 1).getD y1 0 = ps.getD y1 0 := addV_at ps x 6 1 y1 (fun i hi => by
    have : i = 0 := by omega
    rcases this with rfl <;> omega)
  have v1 : addV ps x 6 2 = (addV ps x 6 1).set y1 (ps.getD y1 0 + 4) := by
    have h := show addV ps x 6 2 = (addV ps x 6 1).set (x.getD 1 0).toNat ((addV ps x 6 1).getD (x.getD 1 0).toNat 0 + (((6 : Nat) : Int) - 1 - ((1 : Nat) : Int))) from rfl
    rw [h, hy1, Int.toNat_natCast, e1, show ((6 : Nat) : Int) - 1 - ((1 : Nat) : Int) = 4 from by omega]
  have k2 : (y2 : Int) < 6 := by omega
  have p2 := hM y2 (by omega)
  have c2 := ho.cellI (b := y2) (by omega)
  have z2 := ho.free (b := y2)
  have e2 : (addV ps x 6 2).getD y2 0 = ps.getD y2 0 := addV_at ps x 6 2 y2 (fun i hi => by
    have : i = 0 ∨ i = 1 := by omega
    rcases this with rfl | rfl <;> omega)
  have v2 : addV ps x 6 3 = (addV ps x 6 2).set y2 (ps.getD y2 0 + 3) := by
    have h := show addV ps x 6 3 = (addV ps x 6 2).set (x.getD 2 0).toNat ((addV ps x 6 2).getD (x.getD 2 0).toNat 0 + (((6 : Nat) : Int) - 1 - ((2 : Nat) : Int))) from rfl
    rw [h, hy2, Int.toNat_natCast, e2, show ((6 : Nat) : Int) - 1 - ((2 : Nat) : Int) = 3 from by omega]
  have k3 : (y3 : Int) < 6 := by omega
  have p3 := hM y3 (by omega)
  have c3 := ho.cellI (b := y3) (by omega)
  have z3 := ho.free (b := y3)
  have e3 : (addV ps x 6 3).getD y3 0 = ps.getD y3 0 := addV_at ps x 6 3 y3 (fun i hi => by
    have : i = 0 ∨ i = 1 ∨ i = 2 := by omega
    rcases this with rfl | rfl | rfl <;> omega)
  have v3 : addV ps x 6 4 = (addV ps x 6 3).set y3 (ps.getD y3 0 + 2) := by
    have h := show addV ps x 6 4 = (addV ps x 6 3).set (x.getD 3 0).toNat ((addV ps x 6 3).getD (x.getD 3 0).toNat 0 + (((6 : Nat) : Int) - 1 - ((3 : Nat) : Int))) from rfl
    rw [h, hy3, Int.toNat_natCast, e3, show ((6 : Nat) : Int) - 1 - ((3 : Nat) : Int) = 2 from by omega]
  have k4 : (y4 : Int) < 6 := by omega
  have p4 := hM y4 (by omega)
  have c4 := ho.cellI (b := y4) (by omega)
  have z4 := ho.free (b := y4)
  have e4 : (addV ps x 6 4).getD y4 0 = ps.getD y4 0 := addV_at ps x 6 4 y4 (fun i hi => by
    have : i = 0 ∨ i = 1 ∨ i = 2 ∨ i = 3 := by omega
    rcases this with rfl | rfl | rfl | rfl <;> omega)
  have v4 : addV ps x 6 5 = (addV ps x 6 4).set y4 (ps.getD y4 0 + 1) := by
    have h := show addV ps x 6 5 = (addV ps x 6 4).set (x.getD 4 0).toNat ((addV ps x 6 4).getD (x.getD 4 0).toNat 0 + (((6 : Nat) : Int) - 1 - ((4 : Nat) : Int))) from rfl
    rw [h, hy4, Int.toNat_natCast, e4, show ((6 : Nat) : Int) - 1 - ((4 : Nat) : Int) = 1 from by omega]
  have o0 : OwnInt w g 6 (addV ps x 6 0) := ho
  have o1 : OwnInt (w.setCell ⟨g, y0, none⟩ (.int .i64 (ps.getD y0 0 + 5))) g 6 (addV ps x 6 1) := by rw [v0]; exact o0.put _
  have o2 : OwnInt ((w.setCell ⟨g, y0, none⟩ (.int .i64 (ps.getD y0 0 + 5))).setCell ⟨g, y1, none⟩ (.int .i64 (ps.getD y1 0 + 4))) g 6 (addV ps x 6 2) := by rw [v1]; exact o1.put _
  have o3 : OwnInt (((w.setCell ⟨g, y0, none⟩ (.int .i64 (ps.getD y0 0 + 5))).setCell ⟨g, y1, none⟩ (.int .i64 (ps.getD y1 0 + 4))).setCell ⟨g, y2, none⟩ (.int .i64 (ps.getD y2 0 + 3))) g 6 (addV ps x 6 3) := by rw [v2]; exact o2.put _
  have o4 : OwnInt ((((w.setCell ⟨g, y0, none⟩ (.int .i64 (ps.getD y0 0 + 5))).setCell ⟨g, y1, none⟩ (.int .i64 (ps.getD y1 0 + 4))).setCell ⟨g, y2, none⟩ (.int .i64 (ps.getD y2 0 + 3))).setCell ⟨g, y3, none⟩ (.int .i64 (ps.getD y3 0 + 2))) g 6 (addV ps x 6 4) := by rw [v3]; exact o3.put _
  have o5 : OwnInt (((((w.setCell ⟨g, y0, none⟩ (.int .i64 (ps.getD y0 0 + 5))).setCell ⟨g, y1, none⟩ (.int .i64 (ps.getD y1 0 + 4))).setCell ⟨g, y2, none⟩ (.int .i64 (ps.getD y2 0 + 3))).setCell ⟨g, y3, none⟩ (.int .i64 (ps.getD y3 0 + 2))).setCell ⟨g, y4, none⟩ (.int .i64 (ps.getD y4 0 + 1))) g 6 (addV ps x 6 5) := by rw [v4]; exact o4.put _
  have hg : w.grownBy (((((w.setCell ⟨g, y0, none⟩ (.int .i64 (ps.getD y0 0 + 5))).setCell ⟨g, y1, none⟩ (.int .i64 (ps.getD y1 0 + 4))).setCell ⟨g, y2, none⟩ (.int .i64 (ps.getD y2 0 + 3))).setCell ⟨g, y3, none⟩ (.int .i64 (ps.getD y3 0 + 2))).setCell ⟨g, y4, none⟩ (.int .i64 (ps.getD y4 0 + 1))) (some g) := only_setCell (p := ⟨g, y4, none⟩) (only_setCell (p := ⟨g, y3, none⟩) (only_setCell (p := ⟨g, y2, none⟩) (only_setCell (p := ⟨g, y1, none⟩) (only_setCell (p := ⟨g, y0, none⟩) (only_refl w _) (Or.inl rfl) _) (Or.inl rfl) _) (Or.inl rfl) _) (Or.inl rfl) _) (Or.inl rfl) _
  have OF : Hid (OwnInt (((((w.setCell ⟨g, y0, none⟩ (.int .i64 (ps.getD y0 0 + 5))).setCell ⟨g, y1, none⟩ (.int .i64 (ps.getD y1 0 + 4))).setCell ⟨g, y2, none⟩ (.int .i64 (ps.getD y2 0 + 3))).setCell ⟨g, y3, none⟩ (.int .i64 (ps.getD y3 0 + 2))).setCell ⟨g, y4, none⟩ (.int .i64 (ps.getD y4 0 + 1))) g 6 (addV ps x 6 5)) := Lib.hid o5
  have GF := Lib.hid hg
  rw [hy0] at r0
  rw [hy1] at r1
  have rr1 : w.cell? ⟨b.block, b.off + 1, none⟩ = some (.int .i64 (y1 : Int)) := r1
  rw [hy2] at r2
  have rr2 : w.cell? ⟨b.block, b.off + 2, none⟩ = some (.int .i64 (y2 : Int)) := r2
  rw [hy3] at r3
  have rr3 : w.cell? ⟨b.block, b.off + 3, none⟩ = some (.int .i64 (y3 : Int)) := r3
  rw [hy4] at r4
  have rr4 : w.cell? ⟨b.block, b.off + 4, none⟩ = some (.int .i64 (y4 : Int)) := r4
  rw [hy0] at r00
  have m10 : ¬ y1 = y0 := by omega
  have m01 : ¬ y0 = y1 := by omega
  have m20 : ¬ y2 = y0 := by omega
  have m02 : ¬ y0 = y2 := by omega
  have m21 : ¬ y2 = y1 := by omega
  have m12 : ¬ y1 = y2 := by omega
  have m30 : ¬ y3 = y0 := by omega
  have m03 : ¬ y0 = y3 := by omega
  have m31 : ¬ y3 = y1 := by omega
  have m13 : ¬ y1 = y3 := by omega
  have m32 : ¬ y3 = y2 := by omega
  have m23 : ¬ y2 = y3 := by omega
  have m40 : ¬ y4 = y0 := by omega
  have m04 : ¬ y0 = y4 := by omega
  have m41 : ¬ y4 = y1 := by omega
  have m14 : ¬ y1 = y4 := by omega
  have m42 : ¬ y4 = y2 := by omega
  have m24 : ¬ y2 = y4 := by omega
  have m43 : ¬ y4 = y3 := by omega
  have m34 : ¬ y3 = y4 := by omega
  clear o0 o1 o2 o3 o4 o5 v0 e0 hy0 x0 v1 e1 hy1 x1 v2 e2 hy2 x2 v3 e3 hy3 x3 v4 e4 hy4 x4 n10 n20 n21 n30 n31 n32 n40 n41 n42 n43 hg hx hj hM hl
  generalize ps.getD y0 0 = s0 at *
  generalize ps.getD y1 0 = s1 at *
  generalize ps.getD y2 0 = s2 at *
  generalize ps.getD y3 0 = s3 at *
  generalize ps.getD y4 0 = s4 at *
  go_enter Try.func50, Try.ntmps50
  go_wp2
  go_end0
  exact ⟨rfl, OF.out, GF.out⟩
theorem iaddPoints (q g : Nat) (B : Option Addr) (d : Nat) (ps x : List Int) (w : World) (h1 : 1 ≤ q) (h6 : q ≤ 6) (hM : ∀ i, i < q → 0 ≤ ps.getD i 0 ∧ ps.getD i 0 ≤ 1000) (ho : OwnInt w g q ps) (hr : ReadsI w B q x) (hx : ∀ k, k < q → 0 ≤ x.getD k 0 ∧ x.getD k 0 < q) (hj : ∀ k j, k < q → j < q → x.getD k 0 = x.getD j 0 → k = j)
    (hne : ∀ a, B = some a → a.block ≠ g) : Calls Try.prog 50 #[.slice (some ⟨g, 0, none⟩) q q, .slice B q d] w (Added g q (addV ps x q (q - 1)) w) := by
  have : q = 1 ∨ q = 2 ∨ q = 3 ∨ q = 4 ∨ q = 5 ∨ q = 6 := by omega
  rcases this with rfl | rfl | rfl | rfl | rfl | rfl
  · exact iadd1 g B d ps x w hM ho hr hx hj hne
  · exact iadd2 g B d ps x w hM ho hr hx hj hne
  · exact iadd3 g B d ps x w hM ho hr hx hj hne
  · exact iadd4 g B d ps x w hM ho hr hx hj hne
  · exact iadd5 g B d ps x w hM ho hr hx hj hne
  · exact iadd6 g B d ps x w hM ho hr hx hj hne
end Go.Proofs.Ytbbinndegcnedac
