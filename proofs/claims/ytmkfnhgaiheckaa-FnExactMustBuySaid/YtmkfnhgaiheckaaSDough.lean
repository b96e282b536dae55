/- Slices of Dough: the laws' helpers by contract. -/
import Derived.Test.YtmkfnhgaiheckaaOpen
import Derived.Test.YtmkfnhgaiheckaaChecked
import Derived.Deep.QuietTactic
import Derived.BigQuiet
import Derived.Deep.RegionHeld3
namespace Go.Proofs.Ytmkfnhgaiheckaa
open Go.ChangeShapes Go.WideShapes Go.ChangeAt Go.RowKit
set_option linter.unusedVariables false
set_option linter.unusedSimpArgs false
structure DoughR where
  f0 : Int
  f1 : Int
  f2 : Int

/-- a slice of Dough that is read -/
def ReadsDough (w : World) (A : Option Addr) (n : Nat) (xs : List DoughR) : Prop :=
  xs.length = n ∧ ∀ k, k < n → ∃ ad, A = some ad ∧ w.cell? (ad.add (k * 3)) = some (.int .i64 (xs.getD k ⟨0, 0, 0⟩).f0) ∧ w.cell? ⟨(ad.add (k * 3)).block, (ad.add (k * 3)).off + 1, none⟩ = some (.int .i64 (xs.getD k ⟨0, 0, 0⟩).f1) ∧ w.cell? ⟨(ad.add (k * 3)).block, (ad.add (k * 3)).off + 2, none⟩ = some (.int .i64 (xs.getD k ⟨0, 0, 0⟩).f2)
theorem ReadsDough.in_ {w w' : World} {A : Option Addr} {n : Nat} {xs : List DoughR} (h : ReadsDough w A n xs) (hi : In w.heap.size w w') : ReadsDough w' A n xs := by
  refine ⟨h.1, fun k hk => ?_⟩
  obtain ⟨ad, hA, h0, h1, h2⟩ := h.2 k hk
  exact ⟨ad, hA, cell_in h0 hi, cell_in h1 hi, cell_in h2 hi⟩
theorem ReadsDough.below {w w' : World} {A : Option Addr} {n : Nat} {xs : List DoughR} (h : ReadsDough w A n xs) (hb : Below w.heap.size w w') : ReadsDough w' A n xs := h.in_ ⟨hb, hb.size⟩
theorem ReadsDough.step {w w' : World} {A : Option Addr} {n : Nat} {xs : List DoughR} (h : ReadsDough w A n xs) (hb : Below w.heap.size w w') : ReadsDough w' A n xs := h.below hb
theorem ReadsDough.alloc {w : World} {A : Option Addr} {n : Nat} {xs : List DoughR} (h : ReadsDough w A n xs) (o : Obj) : ReadsDough (w.alloc o) A n xs := h.in_ ((In.refl w).alloc o)
theorem ReadsDough.drew {w : World} {A : Option Addr} {n : Nat} {xs : List DoughR} (h : ReadsDough w A n xs) : ReadsDough w.drew A n xs := h.in_ (In.refl w).drew
/-- block g holds these Doughs -/
def OwnDough (w : World) (g n : Nat) (xs : List DoughR) : Prop :=
  ∃ cur : Array Value, Blk w g 164 cur ∧ cur.size = n * 3 ∧ xs.length = n ∧ ∀ t, t < n → cur[t * 3]? = some (.int .i64 (xs.getD t ⟨0, 0, 0⟩).f0) ∧ cur[t * 3 + 1]? = some (.int .i64 (xs.getD t ⟨0, 0, 0⟩).f1) ∧ cur[t * 3 + 2]? = some (.int .i64 (xs.getD t ⟨0, 0, 0⟩).f2)
theorem OwnDough.reads {w : World} {g n : Nat} {xs : List DoughR} (h : OwnDough w g n xs) : ReadsDough w (some ⟨g, 0, none⟩) n xs := by
  obtain ⟨cur, hb, hs, hl, hc⟩ := h
  refine ⟨hl, fun k hk => ⟨_, rfl, ?_⟩⟩
  have := hc k hk
  simp only [Addr.add_lit, Nat.zero_add, hb.cell]
  exact this
theorem OwnDough.below {w w' : World} {g n B : Nat} {xs : List DoughR} (h : OwnDough w g n xs) (hb : Below B w w') (hg : g < B) : OwnDough w' g n xs := by
  obtain ⟨cur, hk, r⟩ := h
  exact ⟨cur, hk.below hb hg, r⟩
theorem toDough_c (a0 : Int) (a1 : Int) (a2 : Int) (w : World) : Calls Try.prog 148 #[.agg #[.int .i64 a0, .int .i64 a1, .int .i64 a2]] w (Val (.agg #[.int .i64 a0, .int .i64 a1, .int .i64 a2]) w) := by
  go_enter Try.func148, Try.ntmps148
  go_wp2
  exact bodyPost_ret (v := .agg #[.int .i64 a0, .int .i64 a1, .int .i64 a2]) (by simp [results, Try.results148, go_sem]) rfl (Val.mk' rfl (by (repeat (first | exact In.refl _ | assumption | apply In.alloc | apply In.drewN | apply In.drew | (refine In.step ?_ (by assumption))))))
theorem eqDough_c (a0 : Int) (a1 : Int) (a2 : Int) (w : World) : Calls Try.prog 152 #[.agg #[.int .i64 a0, .int .i64 a1, .int .i64 a2], .agg #[.int .i64 a0, .int .i64 a1, .int .i64 a2]] w (Val (.bool true) w) := by
  go_enter Try.func152, Try.ntmps152
  go_wp2
  all_goals go_ret
  all_goals exact Val.mk' rfl (by (repeat (first | exact In.refl _ | assumption | apply In.alloc | apply In.drewN | apply In.drew | (refine In.step ?_ (by assumption)))))
theorem szDoughS_c (A : Option Addr) (n c : Nat) (left : Int) (w : World) (hn : n ≤ maxLen) (h1 : 0 ≤ left) (h2 : left ≤ 2000000) : Calls Try.prog 67 #[.slice A n c, .int .i64 left] w (Same (.int .i64 (if left < n then -1 else left - n)) w) := by
  unfold maxLen at hn
  by_cases h : left < n
  · rw [if_pos h]
    have h' : left - n < 0 := by omega
    go_enter Try.func67, Try.ntmps67
    go_wp2
    all_goals first | (exfalso; omega) | skip
    go_ret
    exact ⟨rfl, rfl⟩
  · rw [if_neg h]
    have h' : 0 ≤ left - n := by omega
    go_enter Try.func67, Try.ntmps67
    go_wp2
    all_goals first | (exfalso; omega) | skip
    go_ret
    exact ⟨rfl, rfl⟩
theorem eqheldDough {w w' : World} {a b : Addr} {k : Nat} {x0 : Int} {x1 : Int} {x2 : Int} (hi : In w.heap.size w w') (ha : w.cell? (a.add (k * 3)) = some (.int .i64 x0) ∧ w.cell? ⟨(a.add (k * 3)).block, (a.add (k * 3)).off + 1, none⟩ = some (.int .i64 x1) ∧ w.cell? ⟨(a.add (k * 3)).block, (a.add (k * 3)).off + 2, none⟩ = some (.int .i64 x2)) (hb : w.cell? (b.add (k * 3)) = some (.int .i64 x0) ∧ w.cell? ⟨(b.add (k * 3)).block, (b.add (k * 3)).off + 1, none⟩ = some (.int .i64 x1) ∧ w.cell? ⟨(b.add (k * 3)).block, (b.add (k * 3)).off + 2, none⟩ = some (.int .i64 x2)) :
    In w.heap.size w w' ∧ w'.cell? (a.add (k * 3)) = some (.int .i64 x0) ∧ w'.cell? ⟨(a.add (k * 3)).block, (a.add (k * 3)).off + 1, none⟩ = some (.int .i64 x1) ∧ w'.cell? ⟨(a.add (k * 3)).block, (a.add (k * 3)).off + 2, none⟩ = some (.int .i64 x2) ∧ w'.cell? (b.add (k * 3)) = some (.int .i64 x0) ∧ w'.cell? ⟨(b.add (k * 3)).block, (b.add (k * 3)).off + 1, none⟩ = some (.int .i64 x1) ∧ w'.cell? ⟨(b.add (k * 3)).block, (b.add (k * 3)).off + 2, none⟩ = some (.int .i64 x2) := by
  obtain ⟨a0, a1, a2⟩ := ha
  obtain ⟨b0, b1, b2⟩ := hb
  exact ⟨hi, cell_in a0 hi, cell_in a1 hi, cell_in a2 hi, cell_in b0 hi, cell_in b1 hi, cell_in b2 hi⟩
theorem eqDoughS_c (A B : Option Addr) (n c d : Nat) (xs : List DoughR) (w : World) (hn : n ≤ maxLen) (hx : ReadsDough w A n xs) (hy : ReadsDough w B n xs) :
    Calls Try.prog 74 #[.slice A n c, .slice B n d] w (Val (.bool true) w) := by
  unfold maxLen at hn
  go_enter Try.func74, Try.ntmps74
  go_wp2
  go_loopw [5] (fun i wr => ∃ (k : Nat), k ≤ n ∧ i = .int .i64 k ∧ In w.heap.size w wr) (fun i _ => n - (intOf i).toNat)
  case atStart => exact ⟨0, Nat.zero_le _, rfl, by (repeat (first | exact In.refl _ | assumption | apply In.alloc | apply In.drewN | apply In.drew | (refine In.step ?_ (by assumption))))⟩
  case round =>
    obtain ⟨k, hk, rfl, hi⟩ := hrel
    by_cases hlt : k < n
    · obtain ⟨a, rfl, ha⟩ := hx.2 k hlt
      obtain ⟨b, rfl, hb⟩ := hy.2 k hlt
      generalize xs.getD k ⟨0, 0, 0⟩ = x at ha hb
      obtain ⟨x0, x1, x2⟩ := x
      simp only at ha hb
      have HA := Lib.hid ha
      have HB := Lib.hid hb
      clear ha hb
      obtain ⟨hi0, ha0, ha1, ha2, hb0, hb1, hb2⟩ := eqheldDough hi HA.out HB.out
      clear hi0
      go_wp2
      go_region_held3 (fun w' => In w.heap.size w w' ∧ w'.cell? (a.add (k * 3)) = some (.int .i64 x0) ∧ w'.cell? ⟨(a.add (k * 3)).block, (a.add (k * 3)).off + 1, none⟩ = some (.int .i64 x1) ∧ w'.cell? ⟨(a.add (k * 3)).block, (a.add (k * 3)).off + 2, none⟩ = some (.int .i64 x2) ∧ w'.cell? (b.add (k * 3)) = some (.int .i64 x0) ∧ w'.cell? ⟨(b.add (k * 3)).block, (b.add (k * 3)).off + 1, none⟩ = some (.int .i64 x1) ∧ w'.cell? ⟨(b.add (k * 3)).block, (b.add (k * 3)).off + 2, none⟩ = some (.int .i64 x2))
        (first | assumption | exact eqheldDough (In.step (And.left (by assumption)) hb1) HA.out HB.out | exact eqheldDough (by (repeat (first | exact In.refl _ | assumption | apply In.alloc | apply In.drewN | apply In.drew | (refine In.step ?_ (by assumption))))) HA.out HB.out)
        (first | (go_at_call 152; ((with_reducible refine (eqDough_c x0 x1 x2 _).mono ?_); rintro e w1 ⟨rfl, hb1⟩)))
      obtain ⟨hi1, hz⟩ := ‹In w.heap.size w _ ∧ _›
      clear hz
      go_wp2
      go_roundw
      case rel => exact ⟨k + 1, by omega, by go_num, by (repeat (first | exact In.refl _ | assumption | apply In.alloc | apply In.drewN | apply In.drew | (refine In.step ?_ (by assumption))))⟩
      case measure => simp [intOf]; omega
    · go_wp2
      go_ret
      exact Val.mk' rfl (by (repeat (first | exact In.refl _ | assumption | apply In.alloc | apply In.drewN | apply In.drew | (refine In.step ?_ (by assumption)))))
theorem infoDough : (Try.prog.info? 164).map (fun i => (i.zero, i.size)) = some (some (.agg #[.int .i64 0, .int .i64 0, .int .i64 0]), 3) := by kernel_rfl
theorem bytesDough : (Try.prog.info? 164).map (fun i => decide (i.bytes ≤ 96)) = some true := by kernel_rfl
/-- what a call answers that makes a row of Doughs of its own -/
def RowDough (xs : List DoughR) (w : World) (e : Ending) (w' : World) : Prop :=
  ∃ g, e = .returned (.slice (some ⟨g, 0, none⟩) xs.length xs.length) ∧ OwnDough w' g xs.length xs ∧ w.heap.size ≤ g ∧ Below w.heap.size w w'
set_option maxHeartbeats 1000000 in
theorem toDoughS_c (A : Option Addr) (n c : Nat) (xs : List DoughR) (w : World) (hn : (n : Int) ≤ 10000000) (hx : ReadsDough w A n xs) :
    Calls Try.prog 70 #[.slice A n c] w (RowDough xs w) := by
  obtain ⟨i0, hi0, hz0, hz1⟩ : ∃ i, Try.prog.info? 164 = some i ∧ i.zero = some (.agg #[.int .i64 0, .int .i64 0, .int .i64 0]) ∧ i.size = 3 := by
    have h := infoDough
    cases hh : Try.prog.info? 164 with
    | none => rw [hh] at h; cases h
    | some i => rw [hh] at h; simp at h; exact ⟨i, rfl, h.1, h.2⟩
  have hz2 : i0.bytes ≤ 96 := by
    have h := bytesDough
    rw [hi0] at h
    simpa using h
  have hlen := hx.1
  have HLEN := Lib.hid hlen
  clear hlen
  go_enter Try.func70, Try.ntmps70
  go_wp2_with (at_make; refine wpList_make_full _ rfl (.tmp 6) (.tmp 6) 92 rfl w.heap.size 164 i0 (.agg #[.int .i64 0, .int .i64 0, .int .i64 0]) 3 Try.underlying92 hi0 hz0 hz1 .i64 .i64 (n : Int) (n : Int) n rfl rfl rfl rfl ?h2 ?h3 ?h4 ?_)
  case h2 =>
    have : i0.bytes * n ≤ 96 * n := Nat.mul_le_mul_right _ hz2
    omega
  case h3 => unfold maxLen; omega
  case h4 => exact Nat.le_refl _
  intro w1 hown0 hgrow0
  have hb0 : Below w.heap.size w w1 := (Below.refl _ _).grown hgrow0 (Nat.le_refl _) (fun j hj => by cases hj)
  clear hgrow0
  obtain ⟨cur0, hk0, hs0⟩ : ∃ cur : Array Value, Blk w1 w.heap.size 164 cur ∧ cur.size = n * 3 := by
    rcases hown0.2 with ⟨h, _⟩ | ⟨g, cap, cur, h, hg, hh, hnc, hcp, hcs, htake⟩
    · cases h
    · injection h with h1 h2 h3
      injection h1 with h1
      injection h1 with h1
      subst h1 h3
      exact ⟨cur, hh, hcs⟩
  have HS0 := Lib.hid hs0
  clear hown0 hs0
  go_wp2
  go_loopw [4] (fun i wr => ∃ (k : Nat) (cur : Array Value), k ≤ n ∧ i = .int .i64 k ∧ Blk wr w.heap.size 164 cur ∧ cur.size = n * 3 ∧ (∀ t, t < k → cur[t * 3]? = some (.int .i64 (xs.getD t ⟨0, 0, 0⟩).f0) ∧ cur[t * 3 + 1]? = some (.int .i64 (xs.getD t ⟨0, 0, 0⟩).f1) ∧ cur[t * 3 + 2]? = some (.int .i64 (xs.getD t ⟨0, 0, 0⟩).f2)) ∧ Below w.heap.size w wr) (fun i _ => n - (intOf i).toNat)
  case atStart => exact ⟨0, cur0, Nat.zero_le _, rfl, hk0, HS0.out, fun t ht => absurd ht (Nat.not_lt_zero _), hb0⟩
  case round =>
    clear hk0 hb0 HS0
    obtain ⟨k, cur, hk, rfl, hK, hs, hp, hb⟩ := hrel
    have HS := Lib.hid hs
    have HP := Lib.hid hp
    clear hs hp
    by_cases hlt : k < n
    · obtain ⟨a, rfl, ha⟩ := (hx.in_ ⟨hb, hb.size⟩).2 k hlt
      generalize hx0 : xs.getD k ⟨0, 0, 0⟩ = x at ha
      have HX := Lib.hid hx0
      clear hx0
      obtain ⟨x0, x1, x2⟩ := x
      simp only at ha
      obtain ⟨ha0, ha1, ha2⟩ := ha
      go_wp2_with fail
      refine (toDough_c x0 x1 x2 _).mono ?_
      rintro e w2 ⟨rfl, hb2⟩
      have hK2 := Blk.step hK hb2
      have hB2 : Below w.heap.size w w2 := hb.trans (hb2.mono hb.size)
      have hlt2 : ∀ j, j < 3 → k * 3 + j < cur.size := by have := HS.out; omega
      obtain ⟨y0, hy0⟩ : ∃ y, w2.cell? ⟨w.heap.size, k * 3, none⟩ = some y := ⟨cur[k * 3 + 0]'(hlt2 0 (by omega)), by rw [hK2.cell]; simp⟩
      have z0 := hK2.frozen (k * 3)
      obtain ⟨y1, hy1⟩ : ∃ y, w2.cell? ⟨w.heap.size, k * 3 + 1, none⟩ = some y := ⟨cur[k * 3 + 1]'(hlt2 1 (by omega)), by rw [hK2.cell]; simp⟩
      have z1 := hK2.frozen (k * 3 + 1)
      obtain ⟨y2, hy2⟩ : ∃ y, w2.cell? ⟨w.heap.size, k * 3 + 2, none⟩ = some y := ⟨cur[k * 3 + 2]'(hlt2 2 (by omega)), by rw [hK2.cell]; simp⟩
      have z2 := hK2.frozen (k * 3 + 2)
      have hlt3 := hK2.lt
      clear hb2 hb hK hlt2
      go_wp2
      go_roundw
      case rel =>
        refine ⟨k + 1, ((cur.setIfInBounds (k * 3) (.int .i64 x0)).setIfInBounds (k * 3 + 1) (.int .i64 x1)).setIfInBounds (k * 3 + 2) (.int .i64 x2), by omega, by go_num, ((hK2.set_ _ _).set_ _ _).set_ _ _, by simp; exact HS.out, fun t ht => ?_, ((hB2.setCell (Nat.le_refl _) _).setCell (Nat.le_refl _) _).setCell (Nat.le_refl _) _⟩
        have hsz := HS.out
        by_cases e : t = k
        · subst e
          rw [HX.out]
          simp [Array.getElem?_setIfInBounds, hsz]
          omega
        · have h := HP.out t (by omega)
          have ne : ∀ i j, i < 3 → j < 3 → k * 3 + i ≠ t * 3 + j := by omega
          simp only [Array.getElem?_setIfInBounds]
          simp only [if_neg (show k * 3 ≠ t * 3 by omega), if_neg (show k * 3 ≠ t * 3 + 1 by omega), if_neg (show k * 3 ≠ t * 3 + 2 by omega), if_neg (show k * 3 + 1 ≠ t * 3 by omega), if_neg (show k * 3 + 1 ≠ t * 3 + 1 by omega), if_neg (show k * 3 + 1 ≠ t * 3 + 2 by omega), if_neg (show k * 3 + 2 ≠ t * 3 by omega), if_neg (show k * 3 + 2 ≠ t * 3 + 1 by omega), if_neg (show k * 3 + 2 ≠ t * 3 + 2 by omega)]
          exact h
      case measure => simp [intOf]; omega
    · obtain rfl : k = n := by omega
      go_wp2
      go_ret
      have hl := HLEN.out
      subst hl
      exact ⟨w.heap.size, rfl, ⟨cur, hK, HS.out, rfl, HP.out⟩, Nat.le_refl _, hb⟩
theorem openDough {H : Type} {enc : TypeId × Value → H} {w : World} {base : Nat} {spare : Nat → Bool} {held : Bool} {fuel : Nat} {A : Option Addr} {n c : Nat} {x : DataW H × List MemPlace}
    (h : DataW.trod enc Try.prog w base spare held fuel 86 (Value.cells (.slice A n c)).toList = some x) : ∃ zs, n ≤ maxLen ∧ ReadsDough w A n zs := by
  obtain ⟨hn, hr⟩ := rows_open Try.underlying86 Try.underlying166 (by kernel_rfl) (by kernel_rfl) h
  have h2 : ∀ i, i < n → ∃ r : DoughR, ∃ ad, A = some ad ∧ w.cell? (ad.add (i * 3)) = some (.int .i64 r.f0) ∧ w.cell? ⟨(ad.add (i * 3)).block, (ad.add (i * 3)).off + 1, none⟩ = some (.int .i64 r.f1) ∧ w.cell? ⟨(ad.add (i * 3)).block, (ad.add (i * 3)).off + 2, none⟩ = some (.int .i64 r.f2) := fun i hi => by
    obtain ⟨a, hA, hc⟩ := hr i hi
    obtain ⟨v0, k0, y0, hv0, ht0⟩ := hc 0 _ rfl
    obtain ⟨z0, e0, _, _⟩ := DataW.trod_int Try.underlying3 ht0
    obtain rfl : v0 = .int .i64 z0 := by simpa using e0
    obtain ⟨v1, k1, y1, hv1, ht1⟩ := hc 1 _ rfl
    obtain ⟨z1, e1, _, _⟩ := DataW.trod_int Try.underlying3 ht1
    obtain rfl : v1 = .int .i64 z1 := by simpa using e1
    obtain ⟨v2, k2, y2, hv2, ht2⟩ := hc 2 _ rfl
    obtain ⟨z2, e2, _, _⟩ := DataW.trod_int Try.underlying3 ht2
    obtain rfl : v2 = .int .i64 z2 := by simpa using e2
    exact ⟨⟨z0, z1, z2⟩, a, hA, hv0, cell_next (by decide) hv1, cell_next (by decide) hv2⟩
  obtain ⟨xs, hl, hx⟩ := list_of (⟨0, 0, 0⟩ : DoughR) _ n h2
  exact ⟨xs, hn, hl, hx⟩
end Go.Proofs.Ytmkfnhgaiheckaa
