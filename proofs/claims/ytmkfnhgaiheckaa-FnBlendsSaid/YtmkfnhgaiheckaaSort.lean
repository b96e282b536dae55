/- Sorting a row of numbers by a closure: slices.SortStableFunc of at most 20. -/
import Derived.Test.YtmkfnhgaiheckaaSrt
import Derived.Test.YtmkfnhgaiheckaaWays
import Derived.Test.YtmkfnhgaiheckaaIn
import Derived.Test.YtmkfnhgaiheckaaQuiet
import Derived.IntWalk
namespace Go.Proofs.Ytmkfnhgaiheckaa
open Go.ChangeShapes Go.WideShapes Go.ChangeAt Go.RowKit
set_option linter.unusedVariables false
set_option linter.unusedSimpArgs false
set_option maxHeartbeats 2000000
set_option maxRecDepth 20000

def cmpV (a b : Int) : Int := if a < b then -1 else if b < a then 1 else 0
theorem iCmp (a b : Int) (w : World) : Calls Try.prog 125 #[.int .i64 a, .int .i64 b] w (Same (.int .i64 (cmpV a b)) w) := by
  have h1 : (a != a) = false := by simp
  have h2 : (b != b) = false := by simp
  by_cases h : a < b
  · have HV : Hid (cmpV a b = -1) := Lib.hid (by rw [cmpV, if_pos h])
    go_enter Try.func125, Try.ntmps125
    go_wp2_with go_in
    go_ret
    exact ⟨ret_int HV.out.symm, rfl⟩
  by_cases k : b < a
  · have HV : Hid (cmpV a b = 1) := Lib.hid (by rw [cmpV, if_neg h, if_pos k])
    go_enter Try.func125, Try.ntmps125
    go_wp2_with go_in
    go_ret
    exact ⟨ret_int HV.out.symm, rfl⟩
  have HV : Hid (cmpV a b = 0) := Lib.hid (by rw [cmpV, if_neg h, if_neg k])
  go_enter Try.func125, Try.ntmps125
  go_wp2_with go_in
  go_ret
  exact ⟨ret_int HV.out.symm, rfl⟩
/-- the compare of a sort -/
def Cmps (F : FuncId) (cp : Value) (cv : Int → Int → Int) (B n : Nat) (w : World) : Prop :=
  ∀ (x y : Int) (w' : World), 0 ≤ x → x < n → 0 ≤ y → y < n → In B w w' → Calls Try.prog F #[.int .i64 x, .int .i64 y, cp] w' (Val (.int .i64 (cv x y)) w')
def ltOf (cv : Int → Int → Int) : Int → Int → Bool := fun x y => decide (cv x y < 0)
def Sorted (B g n : Nat) (lt : Int → Int → Bool) (w : World) (e : Ending) (w' : World) : Prop := e = .returned (.tuple #[]) ∧ Ways w' g n (srtF lt n) ∧ In B w w'
theorem swap_ways {w : World} {g n t J i : Nat} {S : Nat → Int} (h : Ways w g n (midF S i J)) (hJ : J = t + 1) (hi : J ≤ i) (hn : i < n) :
    Ways ((w.setCell ⟨g, J, none⟩ (.int .i64 (S t))).setCell ⟨g, t, none⟩ (.int .i64 i)) g n (midF S i t) := by
  subst hJ
  have h1 := h.set_ (t + 1) (S t) (fun u => if u = t + 1 then S t else midF S i (t + 1) u) (by simp) (fun u hu => by simp [hu]) (by omega)
  exact h1.set_ t i _ (midF_at (by omega)) (fun u hu => by
    by_cases e : u = t + 1
    · subst e; simp [midF_sw hi]
    · simp only [e, if_false]; exact midF_ne hu e) (by omega)
theorem psn_lo {lt : Int → Int → Bool} {x : Int} {S : Nat → Int} {J t : Nat} (hJ : J = t + 1) (h : lt x (S t) = true) : psn lt x S J = psn lt x S t := by subst hJ; rw [psn, if_pos h]
theorem psn_hi {lt : Int → Int → Bool} {x : Int} {S : Nat → Int} {J t : Nat} (hJ : J = t + 1) (h : lt x (S t) = false) : psn lt x S J = J := by subst hJ; rw [psn, if_neg (by simp [h])]
def AtF (w' w : World) (B g n t j : Nat) (x y : Int) (f : Nat → Int) : Prop := In B w w' ∧ Ways w' g n f ∧ w'.cell? ⟨g, t, none⟩ = some (.int .i64 x) ∧ w'.cell? ⟨g, j, none⟩ = some (.int .i64 y)
theorem atF_of {w' w : World} {B g n t j : Nat} {x y : Int} {f : Nat → Int} (h : In B w w') (hw : Ways w' g n f) (h1 : w'.cell? ⟨g, t, none⟩ = some (.int .i64 x)) (h2 : w'.cell? ⟨g, j, none⟩ = some (.int .i64 y)) : AtF w' w B g n t j x y f := ⟨h, hw, h1, h2⟩
theorem AtF.step {w' w w2 : World} {B g n t j : Nat} {x y : Int} {f : Nat → Int} (h : AtF w' w B g n t j x y f) (hb : Below w'.heap.size w' w2) : AtF w2 w B g n t j x y f :=
  ⟨h.1.step hb, h.2.1.below hb, (hb.cell (cell_lt h.2.2.1)).trans h.2.2.1, (hb.cell (cell_lt h.2.2.2)).trans h.2.2.2⟩
theorem AtF.drew {w' w : World} {B g n t j : Nat} {x y : Int} {f : Nat → Int} (h : AtF w' w B g n t j x y f) : AtF w'.drew w B g n t j x y f := h.step (Below.refl _ _).drew
theorem insSort (F : FuncId) (cp : Value) (cv : Int → Int → Int) (B g n : Nat) (w : World) (hB : B ≤ g) (hBw : B ≤ w.heap.size) (h20 : n ≤ 20) (hF : ∀ (args : Array Value) (w : World), Sem.run Try.prog (callFunc F args) w = .ok (.enter F args) w) (hC : Cmps F cp cv B n w) (hW : Ways w g n (fun u => (u : Int))) :
    Calls Try.prog 212 #[.slice (some ⟨g, 0, none⟩) n n, .int .i64 0, .int .i64 (n : Int), .func (Fn.func F) #[] #[cp]] w (Sorted B g n (ltOf cv) w) := by
  have HC := Lib.hid hC
  clear hC
  have hs0 : Ways w g n (fun u => if u < 1 then srtF (ltOf cv) 1 u else (u : Int)) := hW.congr fun u _ => srt_ix _ u
  have i0 : In B w w := ⟨Below.refl _ _, hBw⟩
  clear hW
  go_enter Try.func212, Try.ntmps212
  go_wp2
  go_loopw [8] (fun v wr => ∃ i : Nat, 1 ≤ i ∧ (i ≤ n ∨ i = 1) ∧ v = .int .i64 i ∧ Ways wr g n (fun u => if u < i then srtF (ltOf cv) i u else (u : Int)) ∧ In B w wr) (fun v _ => n - (intOf v).toNat)
  case atStart => exact ⟨1, Nat.le_refl _, .inr rfl, rfl, hs0, i0⟩
  case round =>
    clear hs0 i0
    obtain ⟨i, hi1, hi2, rfl, hs, hi⟩ := hrel
    by_cases hlt : i < n
    · obtain ⟨w8, rfl⟩ : ∃ w8, w8 = wr := ⟨_, rfl⟩
      have hm : Ways w8 g n (midF (srtF (ltOf cv) i) i i) := hs.congr fun u hu => (srt_mid _ i n u hu).symm
      have HN := Lib.hid (fun u hu => mid_srt (ltOf cv) i n hlt u hu)
      have HR := Lib.hid (fun u hu => srtF_in (ltOf cv) i u hu)
      clear hs
      generalize srtF (ltOf cv) i = S at *
      go_wp2
      go_loopw [9] (fun v wr2 => ∃ j : Nat, j ≤ i ∧ v = .int .i64 j ∧ psn (ltOf cv) i S i = psn (ltOf cv) i S j ∧ Ways wr2 g n (midF S i j) ∧ In B w wr2) (fun v _ => (intOf v).toNat)
      case atStart => exact ⟨i, Nat.le_refl _, rfl, rfl, hm, hi⟩
      case round =>
        clear hm hi
        obtain ⟨j, hj, rfl, hp, hw, hi⟩ := hrel
        have HP := Lib.hid hp
        clear hp
        by_cases hj0 : j = 0
        · subst hj0
          have hws : Ways wr g n (fun u => if u < i + 1 then srtF (ltOf cv) (i + 1) u else (u : Int)) := hw.congr fun u hu => by rw [HN.out u hu, HP.out]; rfl
          clear hw
          have hd : decide ((0 : Int) < 0) = false := by decide
          go_wp2
          refine wp_region_S (C := (fun w' => In B w w' ∧ Ways w' g n (fun u => if u < i + 1 then srtF (ltOf cv) (i + 1) u else (u : Int)))) (by kernel_rfl) (by kernel_rfl) ?_ ?_
          · exact ⟨hi.drew, hws.drew⟩
          repeat (first | go_big_quiet_skip | (go_big_quiet_want; first | (refine quiet_ex ?_; apply Exists.intro; refine ⟨fun W hW => ?_, ?_⟩; (· (obtain ⟨i1, hw1⟩ := hW; go_simp; (first | done | with_reducible rfl | rfl))); simp only [Act.put, List.setIfInBounds_toArray, List.set_cons_zero, List.set_cons_succ]; go_big_quiet_on) | (refine quiet_ex ?_; apply Exists.intro; refine ⟨fun W hW => ?_, ?_⟩; (· (go_simp; first | fail)); simp only [Act.put, List.setIfInBounds_toArray, List.set_cons_zero, List.set_cons_succ]; go_big_quiet_on)))
          refine wpQuiet_nil ?_
          rintro w' ⟨i1, hw1⟩
          clear hws hi
          go_wp2
          go_roundw
          case rel => exact ⟨i + 1, by omega, by omega, by go_num, hw1, i1⟩
          case measure => simp [intOf]; omega
        · obtain ⟨t, hJ⟩ : ∃ t, j = t + 1 := ⟨j - 1, by omega⟩
          have HJ := Lib.hid hJ
          have htj : t < j := by omega
          have hjn : j < n := by omega
          have htn : t < n := by omega
          have hsub : (j : Int) - 1 = t := by omega
          have hw64 : IntKind.i64.wrap (t : Int) = t := IntWalk.i64_in _ (by omega)
          have hpos : decide ((0 : Int) < j) = true := by simp; omega
          have hpos2 : 0 < j := by omega
          have HCC : Hid (∀ W, In B w W → Calls Try.prog F #[.int .i64 (i : Int), .int .i64 (S t), cp] W (Val (.int .i64 (cv i (S t))) W)) := Lib.hid (fun W h => HC.out i (S t) W (by omega) (by omega) (by have := HR.out t (by omega); omega) (by have := HR.out t (by omega); omega) h)
          clear hJ
          have hc1 := fun (w' : World) (h : Ways w' g n (midF S i j)) => h.cell t htn
          have hc2 := fun (w' : World) (h : Ways w' g n (midF S i j)) => h.cell j hjn
          rw [midF_lo hj htj] at hc1
          rw [midF_at hj] at hc2
          cases hlx : ltOf cv i (S t)
          · have hws : Ways wr g n (fun u => if u < i + 1 then srtF (ltOf cv) (i + 1) u else (u : Int)) := hw.congr fun u hu => by rw [HN.out u hu, HP.out, psn_hi HJ.out hlx]
            have hst := atF_of hi hws (hc1 _ hw) (hc2 _ hw)
            clear hw hws hi hc1 hc2
            have hd : decide (cv i (S t) < 0) = false := hlx
            go_wp2
            refine wp_region_S (C := (fun w' => AtF w' w B g n t j (S t) i (fun u => if u < i + 1 then srtF (ltOf cv) (i + 1) u else (u : Int)))) (by kernel_rfl) (by kernel_rfl) ?_ ?_
            · exact hst.drew
            repeat (first | go_big_quiet_skip | (go_big_quiet_want; first | (refine quiet_ex ?_; apply Exists.intro; refine ⟨fun W hW => ?_, ?_⟩; (· (obtain ⟨i1, hw1, hx1, hx2⟩ := hW; go_simp; (first | done | with_reducible rfl | rfl))); simp only [Act.put, List.setIfInBounds_toArray, List.set_cons_zero, List.set_cons_succ]; go_big_quiet_on) | (refine quiet_ex ?_; apply Exists.intro; refine ⟨fun W hW => ?_, ?_⟩; (· (go_simp; first | (exact (HCC.out _ hW.1).mono (by rintro e w2 ⟨rfl, hb2⟩; exact ⟨rfl, hW.step hb2⟩)))); simp only [Act.put, List.setIfInBounds_toArray, List.set_cons_zero, List.set_cons_succ]; go_big_quiet_on)))
            refine wpQuiet_nil ?_
            rintro w' ⟨i1, hw1, hx1, hx2⟩
            clear hst
            go_wp2
            go_roundw
            case rel => exact ⟨i + 1, by omega, by omega, by go_num, hw1, i1⟩
            case measure => simp [intOf]; omega
          · have hst := atF_of hi hw (hc1 _ hw) (hc2 _ hw)
            clear hw hi hc1 hc2
            have hd : decide (cv i (S t) < 0) = true := hlx
            have HPL := Lib.hid (psn_lo HJ.out hlx)
            go_wp2
            refine wp_region_S (C := (fun w' => AtF w' w B g n t j (S t) i (midF S i j))) (by kernel_rfl) (by kernel_rfl) ?_ ?_
            · exact hst.drew
            repeat (first | go_big_quiet_skip | (go_big_quiet_want; first | (refine quiet_ex ?_; apply Exists.intro; refine ⟨fun W hW => ?_, ?_⟩; (· (obtain ⟨i1, hw1, hx1, hx2⟩ := hW; go_simp; (first | done | with_reducible rfl | rfl))); simp only [Act.put, List.setIfInBounds_toArray, List.set_cons_zero, List.set_cons_succ]; go_big_quiet_on) | (refine quiet_ex ?_; apply Exists.intro; refine ⟨fun W hW => ?_, ?_⟩; (· (go_simp; first | (exact (HCC.out _ hW.1).mono (by rintro e w2 ⟨rfl, hb2⟩; exact ⟨rfl, hW.step hb2⟩)))); simp only [Act.put, List.setIfInBounds_toArray, List.set_cons_zero, List.set_cons_succ]; go_big_quiet_on)))
            refine wpQuiet_nil ?_
            rintro w' ⟨i1, hw1, hx1, hx2⟩
            clear hst
            have hz1 := hw1.free t
            have hz2 := hw1.free j
            have HW1 := Lib.hid (swap_ways hw1 HJ.out hj hlt)
            clear hw1
            go_wp2
            go_region
            all_goals go_wp2
            all_goals go_roundw
            case rel => exact ⟨t, by omega, by go_num, by rw [HP.out, HPL.out], HW1.out.drew, ((i1.set_ hB _).set_ hB _).drew⟩
            case measure => simp [intOf]; omega
    · have hws : Ways wr g n (srtF (ltOf cv) n) := hs.congr fun u hu => by
        rw [if_pos (by omega)]
        obtain rfl : i = n := by omega
        rfl
      clear hs
      have hres : Sorted B g n (ltOf cv) w (.returned (.tuple #[])) wr := ⟨rfl, hws, hi⟩
      clear hws hi
      go_wp2
      go_end0
      exact hres
end Go.Proofs.Ytmkfnhgaiheckaa
