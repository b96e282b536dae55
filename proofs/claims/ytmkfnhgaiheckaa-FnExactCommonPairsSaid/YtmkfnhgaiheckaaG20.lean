/- Chapter 20: CommonPairs. -/
import Derived.Test.YtmkfnhgaiheckaaC20
import Derived.Test.YtmkfnhgaiheckaaRowsB
namespace Go.Proofs.Ytmkfnhgaiheckaa
open Go.ChangeShapes Go.WideShapes Go.ChangeAt Go.RowKit
set_option linter.unusedVariables false
set_option linter.unusedSimpArgs false
set_option maxHeartbeats 2000000

abbrev pr (a b : Nat) : List Int := [(a : Int), (b : Int)]
def comP (n : Nat) (xs : List BasketR) (least : Int) (a b : Nat) : Bool := decide (least ≤ cntTo (hasI xs (pr a b) 2) n)
/-- the pairs with a and the next d numbers, behind L -/
def pB (P : Nat → Nat → Bool) (a : Nat) : Nat → List IntSR → List IntSR
  | 0, L => L
  | d + 1, L => if P a (a + 1 + d) then pB P a d L ++ [pr a (a + 1 + d)] else pB P a d L
def pA (P : Nat → Nat → Bool) : Nat → List IntSR
  | 0 => []
  | i + 1 => pB P (i + 1) (8 - i) (pA P i)
theorem pB_t {P : Nat → Nat → Bool} {a d : Nat} {L : List IntSR} (h : P a (a + 1 + d) = true) : pB P a (d + 1) L = pB P a d L ++ [pr a (a + 1 + d)] := by rw [pB, if_pos h]
theorem pB_f {P : Nat → Nat → Bool} {a d : Nat} {L : List IntSR} (h : P a (a + 1 + d) = false) : pB P a (d + 1) L = pB P a d L := by rw [pB, h]; rfl
theorem pB_len (P : Nat → Nat → Bool) (a : Nat) (L : List IntSR) : ∀ d, (pB P a d L).length ≤ L.length + d
  | 0 => Nat.le_refl _
  | d + 1 => by
    have := pB_len P a L d
    rw [pB]
    split
    · rw [List.length_append]; simp; omega
    · omega
theorem pB_row (P : Nat → Nat → Bool) (a : Nat) {L : List IntSR} (h : ∀ r ∈ L, r.length = 2) : ∀ d, ∀ r ∈ pB P a d L, r.length = 2
  | 0 => h
  | d + 1 => fun r hr => by
    rw [pB] at hr
    split at hr
    · rw [List.mem_append] at hr
      rcases hr with hr | hr
      · exact pB_row P a h d r hr
      · simp at hr; subst hr; rfl
    · exact pB_row P a h d r hr
theorem pA_len (P : Nat → Nat → Bool) : ∀ i, (pA P i).length ≤ 9 * i
  | 0 => Nat.zero_le _
  | i + 1 => by
    have := pA_len P i
    have h2 := pB_len P (i + 1) (pA P i) (8 - i)
    rw [pA]; omega
theorem pA_row (P : Nat → Nat → Bool) : ∀ i, ∀ r ∈ pA P i, r.length = 2
  | 0 => fun r h => absurd h (by simp [pA])
  | i + 1 => by rw [pA]; exact pB_row P _ (pA_row P i) _
def pairB (n : Nat) (xs : List BasketR) (least : Int) : Bool := bsB n xs && inB least 1 30
def PairsL (n : Nat) (xs : List BasketR) (least : Int) : List IntSR := if pairB n xs least then pA (comP n xs least) 9 else []
theorem PairsL_t {n : Nat} {xs : List BasketR} {least : Int} (h : pairB n xs least = true) : PairsL n xs least = pA (comP n xs least) 9 := by rw [PairsL, if_pos h]
theorem PairsL_f {n : Nat} {xs : List BasketR} {least : Int} (h : pairB n xs least = false) : PairsL n xs least = [] := by rw [PairsL, h]; rfl
theorem PairsL_len (n : Nat) (xs : List BasketR) (least : Int) : (PairsL n xs least).length ≤ 81 := by
  unfold PairsL
  split
  · exact pA_len _ 9
  · simp
theorem lenR_two {xs : List IntSR} (h : ∀ r ∈ xs, r.length = 2) : ∀ k, lenR xs k ≤ 2 * k
  | 0 => Nat.le_refl _
  | k + 1 => by
    have ih := lenR_two h k
    have : (xs.getD k []).length ≤ 2 := by
      by_cases hk : k < xs.length
      · rw [List.getD_eq_getElem?_getD, List.getElem?_eq_getElem hk]
        exact Nat.le_of_eq (h _ (List.getElem_mem hk))
      · rw [List.getD_eq_getElem?_getD, List.getElem?_eq_none (by omega)]; simp
    rw [lenR]; omega
theorem PairsL_tot (n : Nat) (xs : List BasketR) (least : Int) : lenR (PairsL n xs least) (PairsL n xs least).length ≤ 162 := by
  have h1 : ∀ r ∈ PairsL n xs least, r.length = 2 := by
    unfold PairsL
    split
    · exact pA_row _ 9
    · intro r hr; simp at hr
  have h2 := lenR_two h1 (PairsL n xs least).length
  have := PairsL_len n xs least
  omega
/-- a row of rows that a call hands back -/
def RowRC (zs : List IntSR) (w : World) (e : Ending) (w' : World) : Prop := ∃ v, e = .returned v ∧ RowsC w' w.heap.size v zs.length zs ∧ Below w.heap.size w w'
theorem rowRC {zs zs' : List IntSR} {w w' : World} {v : Value} {m : Nat} (he : zs' = zs) (h : RowsC w' w.heap.size v m zs) (hb : Below w.heap.size w w') : RowRC zs' w (.returned v) w' := by
  subst he
  obtain ⟨vs, G, h1, h2, h3⟩ := h
  obtain rfl : zs'.length = m := h2
  exact ⟨v, rfl, ⟨vs, G, h1, rfl, h3⟩, hb⟩
theorem pow_ab {a b : Nat} (ha : a ≤ 9) (hb : b ≤ 9) : setN (pr a b) 2 = 2 ^ a ||| 2 ^ b := by simp [setN]
theorem pow_lt {a : Nat} (ha : a ≤ 9) : 2 ^ a < 1024 := Nat.pow_lt_pow_right (n := 10) (by decide) (by omega)
theorem pr_in {a b : Nat} (ha : a ≤ 9) (hb : b ≤ 9) : ∀ i, i < 2 → 0 ≤ (pr a b).getD i 0 ∧ (pr a b).getD i 0 ≤ 9 := by
  intro i hi
  rcases (show i = 0 ∨ i = 1 by omega) with rfl | rfl
  · simp [pr]; omega
  · simp [pr]; omega
theorem pr_ris {a b : Nat} (h1 : 1 ≤ a) (h2 : a < b) (h3 : b ≤ 9) : risB (pr a b) 1 9 2 = true := by
  have ha : a = 1 ∨ a = 2 ∨ a = 3 ∨ a = 4 ∨ a = 5 ∨ a = 6 ∨ a = 7 ∨ a = 8 := by omega
  have hb : b = 2 ∨ b = 3 ∨ b = 4 ∨ b = 5 ∨ b = 6 ∨ b = 7 ∨ b = 8 ∨ b = 9 := by omega
  rcases ha with rfl | rfl | rfl | rfl | rfl | rfl | rfl | rfl <;> rcases hb with rfl | rfl | rfl | rfl | rfl | rfl | rfl | rfl <;> first | (exfalso; omega) | decide
set_option maxRecDepth 20000 in
set_option maxHeartbeats 16000000 in
theorem sCommonPairs (A : Option Addr) (n c : Nat) (xs : List BasketR) (least : Int) (w : World) (hn : n ≤ maxLen) (hx : ReadsBasket w A n xs) : Calls Try.prog 16 #[.slice A n c, .int .i64 least] w (RowRC (PairsL n xs least) w) := by
  obtain ⟨i0, hi0, hz0, hz1, hz2⟩ := info_parts infoSSb
  have own0 := RowsC.new w w.heap.size (Nat.le_refl _)
  have hi1 : In w.heap.size w (w.alloc (.cells #[] 43)) := (In.refl w).alloc _
  have HX := Lib.hid hx
  have HSB := Lib.hid (fun W (h : ReadsBasket W A n xs) => sBasketsOk A n c xs W hn h)
  have HSC := Lib.hid (fun (ok : bsB n xs = true) S W (hS : S < 1024) (h : ReadsBasket W A n xs) => sCount A n c xs S W hn hS (bsB_at ok).2 h)
  have HOW := Lib.hid own0
  clear hx own0
  go_enter Try.func16, Try.ntmps16
  go_wp2_with fail
  generalize w.alloc (.cells #[] 43) = w0 at *
  refine (HSB.out _ (HX.out.in_ hi1)).mono ?_
  rintro _ w1 ⟨rfl, hb1⟩
  have HO1 := Lib.hid (HOW.out.step hb1)
  have hi2 := hi1.step hb1
  clear HOW hb1
  cases h1 : bsB n xs
  · have HV := Lib.hid (PairsL_f (n := n) (xs := xs) (least := least) (by rw [pairB, h1]; rfl))
    go_wp2
    go_ret
    exact rowRC HV.out (HO1.out.step (by (repeat (first | exact Below.refl _ _ | apply below_drewN | apply Below.drew | (refine Below.alloc ?_ (Nat.le_refl _) _))))) (In.below (by (repeat (first | exact In.refl _ | assumption | apply In.alloc | apply In.drewN | apply In.drew | (refine In.step ?_ (by assumption))))))
  go_wp2_with fail
  refine (sIn least 1 30 _).mono ?_
  rintro _ _ ⟨rfl, rfl⟩
  cases h2 : inB least 1 30
  · have HV := Lib.hid (PairsL_f (n := n) (xs := xs) (least := least) (by rw [pairB, h1, h2]; rfl))
    go_wp2
    go_ret
    exact rowRC HV.out (HO1.out.step (by (repeat (first | exact Below.refl _ _ | apply below_drewN | apply Below.drew | (refine Below.alloc ?_ (Nat.le_refl _) _))))) (In.below (by (repeat (first | exact In.refl _ | assumption | apply In.alloc | apply In.drewN | apply In.drew | (refine In.step ?_ (by assumption))))))
  have HV := Lib.hid (PairsL_t (n := n) (xs := xs) (least := least) (by rw [pairB, h1, h2]; rfl))
  have HC := Lib.hid (fun S W (hS : S < 1024) (h : ReadsBasket W A n xs) => HSC.out h1 S W hS h)
  have HHS := Lib.hid (fun a b (ha : a ≤ 9) (hb : b ≤ 9) => setI_has (m := 2) (bsB_at h1).2 (pr_in ha hb))
  clear HSC HSB h1 h2
  go_wp2
  go_loopw [5, 6, 7] (fun v i b0 wr => ∃ (a m : Nat) (L : List IntSR), a ≤ 9 ∧ i = .int .i64 ((a + 1 : Nat) : Int) ∧ pA (comP n xs least) a = L ∧ m ≤ 9 * a ∧ RowsC wr w.heap.size v m L ∧ In w.heap.size w wr) (fun _ i _ _ => 10 - (intOf i).toNat)
  case atStart => exact ⟨0, 0, [], by omega, rfl, rfl, by omega, HO1.out, by (repeat (first | exact In.refl _ | assumption | apply In.alloc | apply In.drewN | apply In.drew | (refine In.step ?_ (by assumption))))⟩
  case round =>
    clear HO1 hi2 hi1
    obtain ⟨a, m, L, ha, rfl, hL, hm, hr, hi⟩ := hrel
    have HR := Lib.hid hr
    have HL := Lib.hid hL
    clear hr hL
    by_cases hlt : a < 9
    · have HLn : Hid (pA (comP n xs least) (a + 1) = pB (comP n xs least) (a + 1) (8 - a) L) := Lib.hid (by rw [pA, HL.out])
      have hw1 : wrap64 (((a + 1 : Nat) : Int) + 1) = ((a + 1 + 1 : Nat) : Int) := by rw [w64 ⟨by omega, by omega⟩]; push_cast; omega
      have hlt1 : ((a + 1 : Nat) : Int) ≤ 9 := by omega
      have hd9 : decide ((a : Int) + 1 ≤ 9) = true := decide_eq_true (by omega)
      clear HL
      go_wp2
      (try rw [hw1])
      go_loopw [5, 7] (fun v j wr2 => ∃ (d m : Nat) (M : List IntSR), d ≤ 8 - a ∧ j = .int .i64 ((a + 1 + 1 + d : Nat) : Int) ∧ pB (comP n xs least) (a + 1) d L = M ∧ m ≤ 9 * a + d ∧ RowsC wr2 w.heap.size v m M ∧ In w.heap.size w wr2) (fun _ j _ => 10 - (intOf j).toNat)
      case atStart => exact ⟨0, m, L, by omega, rfl, rfl, by omega, HR.out, by (repeat (first | exact In.refl _ | assumption | apply In.alloc | apply In.drewN | apply In.drew | (refine In.step ?_ (by assumption))))⟩
      case round =>
        clear HR hi hm hlt1 hw1
        obtain ⟨d, q, M, hd, rfl, hM, hq, hr, hi⟩ := hrel
        by_cases hlt2 : d < 8 - a
        · have HT := Lib.hid (fun h => (pB_t (P := comP n xs least) (a := a + 1) (d := d) (L := L) h).trans (by rw [hM]))
          have HF := Lib.hid (fun h => (pB_f (P := comP n xs least) (a := a + 1) (d := d) (L := L) h).trans hM)
          obtain ⟨a1, ha1⟩ : ∃ x, x = a + 1 := ⟨_, rfl⟩
          obtain ⟨b, hb⟩ : ∃ x, x = a1 + 1 + d := ⟨_, rfl⟩
          rw [← ha1] at HT HF ⊢
          rw [← hb] at HT HF ⊢
          have HN := Lib.hid hb
          have HA1 := Lib.hid ha1
          have hb9 : b ≤ 9 := by omega
          have ha9 : a1 ≤ 9 := by omega
          have hab : a1 < b := by omega
          have h1a : 1 ≤ a1 := by omega
          clear hM hb ha1
          have hb9i : (b : Int) ≤ 9 := by omega
          have hpa := pow_lt ha9
          have hpb := pow_lt hb9
          have hpo : 2 ^ a1 ||| 2 ^ b < 1024 := Nat.or_lt_two_pow (n := 10) hpa hpb
          obtain ⟨Pa, hPa⟩ : ∃ p : Nat, 2 ^ a1 = p := ⟨_, rfl⟩
          obtain ⟨Pb, hPb⟩ : ∃ p : Nat, 2 ^ b = p := ⟨_, rfl⟩
          have V1 : IntKind.i64.wrap ((2 : Int) ^ a1) = (Pa : Int) := by
            have : ((2 : Int) ^ a1) = (Pa : Int) := by rw [← hPa]; exact (Int.natCast_pow 2 a1).symm
            rw [this]; exact IntWalk.i64_in _ (by omega)
          have V2 : IntKind.i64.wrap ((2 : Int) ^ b) = (Pb : Int) := by
            have : ((2 : Int) ^ b) = (Pb : Int) := by rw [← hPb]; exact (Int.natCast_pow 2 b).symm
            rw [this]; exact IntWalk.i64_in _ (by omega)
          rw [hPa, hPb] at hpo
          rw [hPa] at hpa
          rw [hPb] at hpb
          have V3 := bits_orN hpa hpb
          have hcnt := HHS.out a1 b ha9 hb9
          rw [pow_ab ha9 hb9, hPa, hPb] at hcnt
          obtain ⟨S, hS⟩ : ∃ S : Nat, Pa ||| Pb = S := ⟨_, rfl⟩
          rw [hS] at V3 hpo hcnt
          have HCS := Lib.hid (fun W (h : ReadsBasket W A n xs) => HC.out S W hpo h)
          rw [hcnt] at HCS
          have HPP : Hid (comP n xs least a1 b = decide (least ≤ cntTo (hasI xs (pr a1 b) 2) n)) := Lib.hid rfl
          have hcb := cntTo_in (hasI xs (pr a1 b) 2) n
          generalize cntTo (hasI xs (pr a1 b) 2) n = C at *
          clear hS hcnt hPa hPb
          obtain ⟨Av, cv, rfl, hcv1, hcv2⟩ := hr.shape
          have hi0_ := hi
          have HCL : Hid (∀ W W2, (RowsC W w.heap.size (.slice Av q cv) q M ∧ In w.heap.size w W) → Below W.heap.size W W2 → (RowsC W2 w.heap.size (.slice Av q cv) q M ∧ In w.heap.size w W2)) := Lib.hid fun W W2 h hb => ⟨h.1.step hb, h.2.step hb⟩
          have HXI := Lib.hid (fun W (h : In w.heap.size w W) => HX.out.in_ h)
          clear hi0_
          go_wp2_with fail
          by_cases hle : least ≤ C
          · have HNE := Lib.hid (HT.out (by rw [HPP.out]; exact decide_eq_true hle))
            clear HT HF HPP
            refine wp_region_S (C := (fun w' => RowsC w' w.heap.size (.slice Av q cv) q M ∧ In w.heap.size w w')) (by kernel_rfl) (by kernel_rfl) ?_ ?_
            · exact ⟨hr.drew, hi.drew⟩
            repeat (first | go_big_quiet_skip | (go_big_quiet_want; first | (refine quiet_ex ?_; apply Exists.intro; refine ⟨fun W hW => ?_, ?_⟩; (· (obtain ⟨hr2, hi2⟩ := hW; go_simp; (first | done | with_reducible rfl | rfl))); simp only [Act.put, List.setIfInBounds_toArray, List.set_cons_zero, List.set_cons_succ]; go_big_quiet_on) | (refine quiet_ex ?_; apply Exists.intro; refine ⟨fun W hW => ?_, ?_⟩; (· (go_simp; first | (go_at_call 96; (with_reducible refine (HCS.out _ (HXI.out _ hW.2)).mono ?_); rintro e w2 ⟨rfl, hb2⟩; exact ⟨rfl, HCL.out _ _ hW hb2⟩))); simp only [Act.put, List.setIfInBounds_toArray, List.set_cons_zero, List.set_cons_succ]; go_big_quiet_on)))
            refine wpQuiet_nil ?_
            rintro w' ⟨hr2, hi2⟩
            clear hr hi HCL HXI HCS V1 V2 V3
            obtain ⟨wq, hwq⟩ : ∃ x, x = w' := ⟨_, rfl⟩
            subst hwq
            obtain ⟨vs, G, hp⟩ := hr2
            obtain ⟨r, hrr⟩ : ∃ r, r = wq.heap.size := ⟨_, rfl⟩
            have hrow : OwnC (wq.alloc (.cells #[.int .i64 (a1 : Int), .int .i64 (b : Int)] 3)) wq.heap.size 2 2 (pr a1 b) := ownC_lit2 wq _ _
            have hp2 := hp.step ((Below.refl _ wq).alloc (Nat.le_refl _) (.cells #[.int .i64 (a1 : Int), .int .i64 (b : Int)] 3))
            have hGl := hp.lt
            have hBr : w.heap.size ≤ wq.heap.size := In.size (B := w.heap.size) (a := w) (by (repeat (first | exact In.refl _ | assumption | apply In.alloc | apply In.drewN | apply In.drew | (refine In.step ?_ (by assumption)))))
            have hiA : In w.heap.size w (wq.alloc (.cells #[.int .i64 (a1 : Int), .int .i64 (b : Int)] 3)) := hi2.alloc _
            have hsz : (wq.alloc (.cells #[.int .i64 (a1 : Int), .int .i64 (b : Int)] 3)).heap.size = wq.heap.size + 1 := by simp
            clear hp
            have h63 : q + 1 ≤ 1000000 := by omega
            have hzb : w.heap.size ≤ (wq.alloc (.cells #[.int .i64 (a1 : Int), .int .i64 (b : Int)] 3)).heap.size := by omega
            have hby : 24 ≤ 64 := by omega
            go_wp2_with (at_builtin; refine wpList_app4 (wq.alloc (.cells #[.int .i64 (a1 : Int), .int .i64 (b : Int)] 3)) rfl (.tmp 37) (.tmp 41) 24 rfl w.heap.size 43 i0 (.slice none 0 0) 24 Try.underlying24 hi0 hz0 hz1 hz2 rfl hby (.slice Av q cv) q vs rfl hp2.1 (.slice (some ⟨wq.heap.size, 0, none⟩) 2 2) (wq.heap.size + 1) hsz rfl rfl h63 hzb ?_; intro v1 w1 ho1 hg1)
            have hr3 : RowsC w1 w.heap.size v1 (q + 1) (M ++ [pr a1 b]) := hp2.app (row := pr a1 b) hGl hBr (by simp) hrow ho1 hg1
            have hi3 : In w.heap.size w w1 := ⟨hiA.below.grown hg1 hiA.size (own_block_le hp2.1), Nat.le_trans hiA.size hg1.size⟩
            clear ho1 hg1 hp2 hrow hGl hiA hsz hzb hi2
            go_wp2
            go_roundw
            case rel => exact ⟨d + 1, q + 1, _, by omega, by have h1 := HN.out; have h2 := HA1.out; go_num, HNE.out.trans (by rw [HN.out]), by omega, hr3.step (by (repeat (first | exact Below.refl _ _ | apply below_drewN | apply Below.drew | (refine Below.alloc ?_ (Nat.le_refl _) _)))), by (repeat (first | exact In.refl _ | assumption | apply In.alloc | apply In.drewN | apply In.drew | (refine In.step ?_ (by assumption))))⟩
            case measure => simp [intOf]; omega
          · have HNE := Lib.hid (HF.out (by rw [HPP.out]; exact decide_eq_false hle))
            clear HT HF HPP
            have hlt9 : C < least := by omega
            refine wp_region_S (C := (fun w' => RowsC w' w.heap.size (.slice Av q cv) q M ∧ In w.heap.size w w')) (by kernel_rfl) (by kernel_rfl) ?_ ?_
            · exact ⟨hr.drew, hi.drew⟩
            repeat (first | go_big_quiet_skip | (go_big_quiet_want; first | (refine quiet_ex ?_; apply Exists.intro; refine ⟨fun W hW => ?_, ?_⟩; (· (obtain ⟨hr2, hi2⟩ := hW; go_simp; (first | done | with_reducible rfl | rfl))); simp only [Act.put, List.setIfInBounds_toArray, List.set_cons_zero, List.set_cons_succ]; go_big_quiet_on) | (refine quiet_ex ?_; apply Exists.intro; refine ⟨fun W hW => ?_, ?_⟩; (· (go_simp; first | (go_at_call 96; (with_reducible refine (HCS.out _ (HXI.out _ hW.2)).mono ?_); rintro e w2 ⟨rfl, hb2⟩; exact ⟨rfl, HCL.out _ _ hW hb2⟩))); simp only [Act.put, List.setIfInBounds_toArray, List.set_cons_zero, List.set_cons_succ]; go_big_quiet_on)))
            refine wpQuiet_nil ?_
            rintro w' ⟨hr2, hi2⟩
            clear hr hi HCL HXI HCS V1 V2 V3
            go_wp2
            go_roundw
            case rel => exact ⟨d + 1, q, M, by omega, by have h1 := HN.out; have h2 := HA1.out; go_num, HNE.out, by omega, hr2.step (by (repeat (first | exact Below.refl _ _ | apply below_drewN | apply Below.drew | (refine Below.alloc ?_ (Nat.le_refl _) _)))), by (repeat (first | exact In.refl _ | assumption | apply In.alloc | apply In.drewN | apply In.drew | (refine In.step ?_ (by assumption))))⟩
            case measure => simp [intOf]; omega
        · obtain rfl : d = 8 - a := by omega
          have HN := Lib.hid (HLn.out.trans hM)
          have HR := Lib.hid hr
          clear hM hr
          go_wp2
          go_roundw
          case rel => exact ⟨a + 1, q, M, by omega, by go_num, HN.out, by omega, HR.out.step (by (repeat (first | exact Below.refl _ _ | apply below_drewN | apply Below.drew | (refine Below.alloc ?_ (Nat.le_refl _) _)))), by (repeat (first | exact In.refl _ | assumption | apply In.alloc | apply In.drewN | apply In.drew | (refine In.step ?_ (by assumption))))⟩
          case measure => simp [intOf]; omega
    · obtain rfl : a = 9 := by omega
      have HN := Lib.hid (HV.out.trans HL.out)
      go_wp2
      go_ret
      exact rowRC HN.out (HR.out.step (by (repeat (first | exact Below.refl _ _ | apply below_drewN | apply Below.drew | (refine Below.alloc ?_ (Nat.le_refl _) _))))) (In.below (by (repeat (first | exact In.refl _ | assumption | apply In.alloc | apply In.drewN | apply In.drew | (refine In.step ?_ (by assumption))))))
theorem icanBeCommon (A : Option Addr) (n c : Nat) (xs : List BasketR) (least : Int) (w : World) (hn : n ≤ maxLen) (hx : ReadsBasket w A n xs) : Calls Try.prog 98 #[.slice A n c, .int .i64 least] w (Val (.bool (pairB n xs least)) w) := by
  have HV : Hid (pairB n xs least = (bsB n xs && inB least 1 30)) := Lib.hid rfl
  go_enter Try.func98, Try.ntmps98
  go_wp2_with fail
  refine (iBasketsOk A n c xs _ hn hx).mono ?_
  rintro _ w1 ⟨rfl, hb1⟩
  cases h1 : bsB n xs
  · go_wp2
    go_ret
    exact Val.mk' (v_bool (by rw [HV.out, h1]; rfl)) (by (repeat (first | exact In.refl _ | assumption | apply In.alloc | apply In.drewN | apply In.drew | (refine In.step ?_ (by assumption)))))
  go_wp2_with fail
  refine (iIn least 1 30 _).mono ?_
  rintro _ _ ⟨rfl, rfl⟩
  go_wp2
  go_ret
  exact Val.mk' (v_bool (by rw [HV.out, h1]; rfl)) (by (repeat (first | exact In.refl _ | assumption | apply In.alloc | apply In.drewN | apply In.drew | (refine In.step ?_ (by assumption)))))
set_option maxRecDepth 20000 in
set_option maxHeartbeats 16000000 in
theorem iCommonPairs (A : Option Addr) (n c : Nat) (xs : List BasketR) (least : Int) (w : World) (hn : n ≤ maxLen) (hx : ReadsBasket w A n xs) : Calls Try.prog 18 #[.slice A n c, .int .i64 least] w (RowRC (PairsL n xs least) w) := by
  obtain ⟨i0, hi0, hz0, hz1, hz2⟩ := info_parts infoSSb
  have HX := Lib.hid hx
  have HCC := Lib.hid (fun a b (h1 : 1 ≤ a) (h2 : a < b) (h3 : b ≤ 9) (ok : bsB n xs = true) B d W (h : ReadsBasket W A n xs) (k : ReadsI W B 2 (pr a b)) => by
    have := iCountWith A n c xs B 2 d (pr a b) W hn h (by unfold maxLen; omega) k
    rwa [show cntV n xs 2 (pr a b) = cntTo (hasI xs (pr a b) 2) n by rw [cntV, ok, pr_ris h1 h2 h3]; rfl] at this)
  go_enter Try.func18, Try.ntmps18
  go_wp2_with fail
  refine (icanBeCommon A n c xs least _ hn hx).mono ?_
  rintro _ w1 ⟨rfl, hb1⟩
  have hi2 : In w.heap.size w w1 := (In.refl w).step hb1
  clear hb1 hx
  cases h1 : pairB n xs least
  · have HV := Lib.hid (PairsL_f h1)
    go_wp2
    go_ret
    exact rowRC HV.out (RowsC.nil _ _) (In.below (by (repeat (first | exact In.refl _ | assumption | apply In.alloc | apply In.drewN | apply In.drew | (refine In.step ?_ (by assumption))))))
  have HV := Lib.hid (PairsL_t h1)
  have hbs : bsB n xs = true := by
    unfold pairB at h1
    cases h2 : bsB n xs
    · rw [h2] at h1; cases h1
    · rfl
  have HC := Lib.hid (fun a b h1 h2 h3 B d W h k => HCC.out a b h1 h2 h3 hbs B d W h k)
  clear HCC h1 hbs
  go_wp2
  go_loopw [5, 6, 7, 8] (fun v i b0 p0 wr => ∃ (a m : Nat) (L : List IntSR), a ≤ 9 ∧ i = .int .i64 ((a + 1 : Nat) : Int) ∧ pA (comP n xs least) a = L ∧ m ≤ 9 * a ∧ RowsC wr w.heap.size v m L ∧ In w.heap.size w wr) (fun _ i _ _ _ => 10 - (intOf i).toNat)
  case atStart => exact ⟨0, 0, [], by omega, rfl, rfl, by omega, (RowsC.nil _ _), by (repeat (first | exact In.refl _ | assumption | apply In.alloc | apply In.drewN | apply In.drew | (refine In.step ?_ (by assumption))))⟩
  case round =>
    clear hi2
    obtain ⟨a, m, L, ha, rfl, hL, hm, hr, hi⟩ := hrel
    have HR := Lib.hid hr
    have HL := Lib.hid hL
    clear hr hL
    by_cases hlt : a < 9
    · have HLn : Hid (pA (comP n xs least) (a + 1) = pB (comP n xs least) (a + 1) (8 - a) L) := Lib.hid (by rw [pA, HL.out])
      have hw1 : wrap64 (((a + 1 : Nat) : Int) + 1) = ((a + 1 + 1 : Nat) : Int) := by rw [w64 ⟨by omega, by omega⟩]; push_cast; omega
      have hlt1 : ((a + 1 : Nat) : Int) ≤ 9 := by omega
      have hd9 : decide ((a : Int) + 1 ≤ 9) = true := decide_eq_true (by omega)
      clear HL
      go_wp2
      (try rw [hw1])
      go_loopw [5, 7, 8] (fun v j p0 wr2 => ∃ (d m : Nat) (M : List IntSR), d ≤ 8 - a ∧ j = .int .i64 ((a + 1 + 1 + d : Nat) : Int) ∧ pB (comP n xs least) (a + 1) d L = M ∧ m ≤ 9 * a + d ∧ RowsC wr2 w.heap.size v m M ∧ In w.heap.size w wr2) (fun _ j _ _ => 10 - (intOf j).toNat)
      case atStart => exact ⟨0, m, L, by omega, rfl, rfl, by omega, HR.out, by (repeat (first | exact In.refl _ | assumption | apply In.alloc | apply In.drewN | apply In.drew | (refine In.step ?_ (by assumption))))⟩
      case round =>
        clear HR hi hm hlt1 hw1
        obtain ⟨d, q, M, hd, rfl, hM, hq, hr, hi⟩ := hrel
        by_cases hlt2 : d < 8 - a
        · have HT := Lib.hid (fun h => (pB_t (P := comP n xs least) (a := a + 1) (d := d) (L := L) h).trans (by rw [hM]))
          have HF := Lib.hid (fun h => (pB_f (P := comP n xs least) (a := a + 1) (d := d) (L := L) h).trans hM)
          obtain ⟨a1, ha1⟩ : ∃ x, x = a + 1 := ⟨_, rfl⟩
          obtain ⟨b, hb⟩ : ∃ x, x = a1 + 1 + d := ⟨_, rfl⟩
          rw [← ha1] at HT HF ⊢
          rw [← hb] at HT HF ⊢
          have HN := Lib.hid hb
          have HA1 := Lib.hid ha1
          have hb9 : b ≤ 9 := by omega
          have ha9 : a1 ≤ 9 := by omega
          have hab : a1 < b := by omega
          have h1a : 1 ≤ a1 := by omega
          clear hM hb ha1
          have hb9i : (b : Int) ≤ 9 := by omega
          have HCW := Lib.hid (fun B d W (h : ReadsBasket W A n xs) (k : ReadsI W B 2 (pr a1 b)) => HC.out a1 b h1a hab hb9 B d W h k)
          have HPP : Hid (comP n xs least a1 b = decide (least ≤ cntTo (hasI xs (pr a1 b) 2) n)) := Lib.hid rfl
          generalize cntTo (hasI xs (pr a1 b) 2) n = C at *
          obtain ⟨Av, cv, rfl, hcv1, hcv2⟩ := hr.shape
          obtain ⟨vs, G, hp⟩ := hr
          obtain ⟨wq, hwq⟩ : ∃ x, x = wr := ⟨_, rfl⟩
          subst hwq
          have hGl := hp.lt
          have hBr : w.heap.size ≤ wq.heap.size := In.size (B := w.heap.size) (a := w) (by (repeat (first | exact In.refl _ | assumption | apply In.alloc | apply In.drewN | apply In.drew | (refine In.step ?_ (by assumption)))))
          have hrow : OwnC (wq.alloc (.cells #[.int .i64 (a1 : Int), .int .i64 (b : Int)] 3)) wq.heap.size 2 2 (pr a1 b) := ownC_lit2 wq _ _
          have hp1 := hp.step ((Below.refl _ wq).alloc (Nat.le_refl _) (.cells #[.int .i64 (a1 : Int), .int .i64 (b : Int)] 3))
          have hi1 : In w.heap.size w (wq.alloc (.cells #[.int .i64 (a1 : Int), .int .i64 (b : Int)] 3)) := hi.alloc _
          have hsz : (wq.alloc (.cells #[.int .i64 (a1 : Int), .int .i64 (b : Int)] 3)).heap.size = wq.heap.size + 1 := by simp
          clear hp hi
          go_wp2_with fail
          refine (HCW.out _ 2 _ (HX.out.in_ (by (repeat (first | exact In.refl _ | assumption | apply In.alloc | apply In.drewN | apply In.drew | (refine In.step ?_ (by assumption)))))) hrow.reads).mono ?_
          rintro _ w3 ⟨rfl, hb3⟩
          have hrow3 := hrow.step hb3
          have hp3 := hp1.step hb3
          have hi3 := hi1.step hb3
          have hs3 : wq.heap.size + 1 ≤ w3.heap.size := by have := hb3.size; omega
          clear hrow hp1 hi1 hsz hb3 HCW
          by_cases hle : least ≤ C
          · have HNE := Lib.hid (HT.out (by rw [HPP.out]; exact decide_eq_true hle))
            clear HT HF HPP
            have h63 : q + 1 ≤ 1000000 := by omega
            have hzb : w.heap.size ≤ w3.heap.size := by omega
            have hby : 24 ≤ 64 := by omega
            go_wp2_with (at_builtin; refine wpList_app4 w3 rfl (.tmp 31) (.tmp 33) 24 rfl w.heap.size 43 i0 (.slice none 0 0) 24 Try.underlying24 hi0 hz0 hz1 hz2 rfl hby (.slice Av q cv) q vs rfl hp3.1 (.slice (some ⟨wq.heap.size, 0, none⟩) 2 2) w3.heap.size rfl rfl rfl h63 hzb ?_; intro v1 w4 ho1 hg1)
            have hr3 : RowsC w4 w.heap.size v1 (q + 1) (M ++ [pr a1 b]) := hp3.app (row := pr a1 b) hGl hBr (by simp) hrow3 ho1 hg1
            have hi4 : In w.heap.size w w4 := ⟨hi3.below.grown hg1 hi3.size (own_block_le hp3.1), Nat.le_trans hi3.size hg1.size⟩
            clear ho1 hg1 hp3 hrow3 hGl hi3 hzb
            go_wp2
            go_roundw
            case rel => exact ⟨d + 1, q + 1, _, by omega, by have h1 := HN.out; have h2 := HA1.out; go_num, HNE.out.trans (by rw [HN.out]), by omega, hr3.step (by (repeat (first | exact Below.refl _ _ | apply below_drewN | apply Below.drew | (refine Below.alloc ?_ (Nat.le_refl _) _)))), by (repeat (first | exact In.refl _ | assumption | apply In.alloc | apply In.drewN | apply In.drew | (refine In.step ?_ (by assumption))))⟩
            case measure => simp [intOf]; omega
          · have HNE := Lib.hid (HF.out (by rw [HPP.out]; exact decide_eq_false hle))
            clear HT HF HPP
            have hlt9 : C < least := by omega
            have hr3 : RowsC w3 w.heap.size (.slice Av q cv) q M := ⟨vs, G, hp3⟩
            clear hp3 hrow3 hGl
            go_wp2
            go_roundw
            case rel => exact ⟨d + 1, q, M, by omega, by have h1 := HN.out; have h2 := HA1.out; go_num, HNE.out, by omega, hr3.step (by (repeat (first | exact Below.refl _ _ | apply below_drewN | apply Below.drew | (refine Below.alloc ?_ (Nat.le_refl _) _)))), by (repeat (first | exact In.refl _ | assumption | apply In.alloc | apply In.drewN | apply In.drew | (refine In.step ?_ (by assumption))))⟩
            case measure => simp [intOf]; omega
        · obtain rfl : d = 8 - a := by omega
          have HN := Lib.hid (HLn.out.trans hM)
          have HR := Lib.hid hr
          clear hM hr
          go_wp2
          go_roundw
          case rel => exact ⟨a + 1, q, M, by omega, by go_num, HN.out, by omega, HR.out.step (by (repeat (first | exact Below.refl _ _ | apply below_drewN | apply Below.drew | (refine Below.alloc ?_ (Nat.le_refl _) _)))), by (repeat (first | exact In.refl _ | assumption | apply In.alloc | apply In.drewN | apply In.drew | (refine In.step ?_ (by assumption))))⟩
          case measure => simp [intOf]; omega
    · obtain rfl : a = 9 := by omega
      have HN := Lib.hid (HV.out.trans HL.out)
      go_wp2
      go_ret
      exact rowRC HN.out (HR.out.step (by (repeat (first | exact Below.refl _ _ | apply below_drewN | apply Below.drew | (refine Below.alloc ?_ (Nat.le_refl _) _))))) (In.below (by (repeat (first | exact In.refl _ | assumption | apply In.alloc | apply In.drewN | apply In.drew | (refine In.step ?_ (by assumption))))))
end Go.Proofs.Ytmkfnhgaiheckaa
