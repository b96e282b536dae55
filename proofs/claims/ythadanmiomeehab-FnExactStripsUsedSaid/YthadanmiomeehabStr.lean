/- Chapter 32: StripsUsed of the program. -/
import Derived.Test.YthadanmiomeehabO08
import Derived.Test.YthadanmiomeehabC32
import Derived.Test.YthadanmiomeehabFst
import Derived.Test.YthadanmiomeehabApp
import Derived.Test.YthadanmiomeehabIntT
import Derived.Test.YthadanmiomeehabIn
import Derived.Test.YthadanmiomeehabQuiet
import Derived.IntWalk
namespace Go.Proofs.Ythadanmiomeehab
open Go.ChangeShapes Go.WideShapes Go.ChangeAt Go.RowKit
set_option linter.unusedVariables false
set_option linter.unusedSimpArgs false
set_option maxHeartbeats 2000000

set_option maxHeartbeats 4000000 in
theorem iisOrder12 (B : Option Addr) (m d n : Nat) (os : List Int) (w : World) (hm : m ≤ maxLen) (hn : n ≤ 12) (hy : ReadsI w B m os) :
    Calls Try.prog 48 #[.slice B m d, .int .i64 (n : Int)] w (Val (.bool (decide (m = n) && allOk (ordOk n os) m)) w) := by
  obtain ⟨i0, hi0, hz0, hz1, hz2⟩ := info_parts infoB
  by_cases h2 : m = n
  rotate_left
  · have HV : Hid ((decide (m = n) && allOk (ordOk n os) m) = false) := Lib.hid (by simp [h2])
    have h2' : ((m : Int) == (n : Int)) = false := by simp; omega
    have h2'' : ((m : Int) != (n : Int)) = true := by simp; omega
    unfold maxLen at hm
    go_enter Try.func48, Try.ntmps48
    go_wp2
    go_ret
    exact Val.mk' (v_bool HV.out.symm) (by (repeat (first | exact In.refl _ | assumption | apply In.alloc | apply In.drewN | apply In.drew | (refine In.step ?_ (by assumption)))))
  subst h2
  have HVT : Hid (allOk (ordOk m os) m = true → (decide (m = m) && allOk (ordOk m os) m) = true) := Lib.hid (fun h => by rw [h]; simp)
  have HVF : Hid (∀ k, k < m → ordOk m os k = false → (decide (m = m) && allOk (ordOk m os) m) = false) := Lib.hid (fun k hk h => by
    rw [allOk_f _ _ k hk h]; simp)
  generalize (decide (m = m) && allOk (ordOk m os) m) = ANS at HVT HVF ⊢
  go_enter Try.func48, Try.ntmps48
  go_wp2_with (at_make; refine wpList_make_full _ rfl (.tmp 12) (.tmp 12) 58 rfl w.heap.size 4 i0 (.bool false) 1 Try.underlying58 hi0 hz0 hz1 .i64 .i64 (m : Int) (m : Int) m rfl rfl rfl rfl ?h2 ?h3 ?h4 ?_)
  case h2 => rw [hz2]; omega
  case h3 => unfold maxLen; omega
  case h4 => exact Nat.le_refl _
  intro w1 hown0 hgrow0
  have hb0 : Below w.heap.size w w1 := (Below.refl _ _).grown hgrow0 (Nat.le_refl _) (fun j hj => by cases hj)
  have hse : Seen w1 w.heap.size m os 0 := seen_made os (by rw [toList_madeCells_one] at hown0; exact hown0)
  have i1 : In w.heap.size w w1 := ⟨hb0, hb0.size⟩
  clear hgrow0 hown0 hb0
  go_wp2
  go_loopw [16] (fun i wr => ∃ k : Nat, k ≤ m ∧ i = .int .i64 k ∧ (∀ i, i < k → ordOk m os i = true) ∧ Seen wr w.heap.size m os k ∧ In w.heap.size w wr) (fun i _ => m - (intOf i).toNat)
  case atStart => exact ⟨0, Nat.zero_le _, rfl, fun i hi => absurd hi (Nat.not_lt_zero _), hse, i1⟩
  case round =>
    clear hse i1
    obtain ⟨k, hk, rfl, ho, hse, hi⟩ := hrel
    have HO := Lib.hid ho
    clear ho
    by_cases hlt : k < m
    · obtain ⟨a, rfl, ca⟩ := (hy.below hi.below (Nat.le_refl _)).2 k hlt
      have HK : Hid (ordOk m os k = (inB (os.getD k 0) 0 ((m : Int) - 1) && !(seenB os k (os.getD k 0)))) := Lib.hid rfl
      have HSET := Lib.hid (fun t ht hn => Seen.set_ hse t ht hn)
      generalize hoo : os.getD k 0 = x at ca HK HSET
      have HX := Lib.hid hoo
      clear hoo
      cases hI : inB x 0 ((m : Int) - 1)
      · have HF := Lib.hid (HVF.out k hlt (by rw [HK.out, hI]; rfl))
        go_wp2_with (first | (go_at_call 46; refine (sIn _ _ _ _).mono ?_; rintro e w' ⟨rfl, rfl⟩) | (go_at_call 56; refine (iIn _ _ _ _).mono ?_; rintro e w' ⟨rfl, rfl⟩) | go_in | (go_end0; simp only []; go_at_K))
        go_ret
        exact Val.mk' (v_bool HF.out.symm) (by (repeat (first | exact In.refl _ | assumption | apply In.alloc | apply In.drewN | apply In.drew | (refine In.step ?_ (by assumption)))))
      obtain ⟨x1, x2⟩ := inB_tt hI
      obtain ⟨t, rfl⟩ : ∃ t : Nat, x = t := ⟨x.toNat, by omega⟩
      have ct := hse.cell t (by omega)
      have ft := hse.free t
      cases hB : seenB os k t
      · have HT : Hid (ordOk m os k = true) := Lib.hid (by rw [HK.out, hI, hB]; rfl)
        rw [hB] at ct
        have hst := HSET.out t rfl (by omega)
        have hi2 : In w.heap.size w (wr.setCell ⟨w.heap.size, t, none⟩ (.bool true)) := hi.set_ (Nat.le_refl _) _
        clear hse
        go_wp2_with (first | (go_at_call 46; refine (sIn _ _ _ _).mono ?_; rintro e w' ⟨rfl, rfl⟩) | (go_at_call 56; refine (iIn _ _ _ _).mono ?_; rintro e w' ⟨rfl, rfl⟩) | go_in | (go_end0; simp only []; go_at_K))
        go_roundw
        case rel => exact ⟨k + 1, by omega, by go_num, fun i hi => by
            by_cases e : i = k
            · subst e; exact HT.out
            · exact HO.out i (by omega), hst, hi2⟩
        case measure => simp [intOf]; omega
      · have HF := Lib.hid (HVF.out k hlt (by rw [HK.out, hI, hB]; rfl))
        rw [hB] at ct
        go_wp2_with (first | (go_at_call 46; refine (sIn _ _ _ _).mono ?_; rintro e w' ⟨rfl, rfl⟩) | (go_at_call 56; refine (iIn _ _ _ _).mono ?_; rintro e w' ⟨rfl, rfl⟩) | go_in | (go_end0; simp only []; go_at_K))
        go_ret
        exact Val.mk' (v_bool HF.out.symm) (by (repeat (first | exact In.refl _ | assumption | apply In.alloc | apply In.drewN | apply In.drew | (refine In.step ?_ (by assumption)))))
    · obtain rfl : k = m := by omega
      go_wp2
      go_ret
      exact Val.mk' (v_bool (HVT.out (allOk_t _ _ HO.out)).symm) (by (repeat (first | exact In.refl _ | assumption | apply In.alloc | apply In.drewN | apply In.drew | (refine In.step ?_ (by assumption)))))
def fitP (ln : Int) (L : List Int) (j : Nat) : Bool := decide (ln ≤ L.getD j 0)
def stpL (sp ln : Int) (L : List Int) : List Int := if fstP (fitP ln L) L.length < 0 then L ++ [sp - ln] else L.set (fstP (fitP ln L) L.length).toNat (L.getD (fstP (fitP ln L) L.length).toNat 0 - ln)
def cutTo (sp : Int) (xs os : List Int) : Nat → List Int
  | 0 => []
  | k + 1 => stpL sp (xs.getD (os.getD k 0).toNat 0) (cutTo sp xs os k)
def stripsB (n : Nat) (xs : List Int) (sp : Int) (m : Nat) (os : List Int) : Bool := lenB n xs sp && (decide (m = n) && allOk (ordOk n os) m)
def stripsV (n : Nat) (xs : List Int) (sp : Int) (m : Nat) (os : List Int) : Int := if stripsB n xs sp m os then ((cutTo sp xs os m).length : Int) else -1
theorem stp_no {sp ln : Int} {L : List Int} (h : fstP (fitP ln L) L.length < 0) : stpL sp ln L = L ++ [sp - ln] := by rw [stpL, if_pos h]
theorem stp_at {sp ln : Int} {L : List Int} {j : Nat} (h : fstP (fitP ln L) L.length = j) : stpL sp ln L = L.set j (L.getD j 0 - ln) := by rw [stpL, h, if_neg (by omega), Int.toNat_natCast]
theorem stp_len {sp ln : Int} {L : List Int} : (stpL sp ln L).length ≤ L.length + 1 := by
  unfold stpL
  split <;> simp
def allB (sp : Int) (L : List Int) : Prop := ∀ y ∈ L, 0 ≤ y ∧ y ≤ sp
theorem all_getD {sp : Int} {L : List Int} (h : allB sp L) (hsp : 0 ≤ sp) (j : Nat) : 0 ≤ L.getD j 0 ∧ L.getD j 0 ≤ sp := by
  rw [List.getD_eq_getElem?_getD]
  cases hj : L[j]? with
  | none => exact ⟨Int.le_refl _, hsp⟩
  | some y => exact h y (List.mem_of_getElem? hj)
theorem fst_is {p : Nat → Bool} {n j : Nat} (h : fstP p n = j) : p j = true ∧ j < n := by
  induction n with
  | zero => exact absurd h (by unfold fstP; omega)
  | succ n ih =>
    rw [fstP] at h
    split at h
    · have := ih h; exact ⟨this.1, by omega⟩
    · split at h
      · rename_i hp
        obtain rfl : n = j := by omega
        exact ⟨hp, by omega⟩
      · omega
theorem stp_all {sp ln : Int} {L : List Int} (h : allB sp L) (h1 : 1 ≤ ln) (h2 : ln ≤ sp) : allB sp (stpL sp ln L) := by
  have hb := fstP_in (fitP ln L) L.length
  by_cases hf : fstP (fitP ln L) L.length < 0
  · rw [stp_no hf]
    intro y hy
    rcases List.mem_append.1 hy with hy | hy
    · exact h y hy
    · simp at hy; omega
  · obtain ⟨j, hj⟩ : ∃ j : Nat, fstP (fitP ln L) L.length = j := ⟨(fstP (fitP ln L) L.length).toNat, by omega⟩
    rw [stp_at hj]
    have hfit := (fst_is hj).1
    have hg := all_getD h (by omega) j
    simp only [fitP, decide_eq_true_eq] at hfit
    intro y hy
    have hm := List.mem_or_eq_of_mem_set hy
    rcases hm with hy2 | hy2
    · exact h y hy2
    · subst hy2; omega
theorem cut_all {sp : Int} {xs os : List Int} (n : Nat) (hx : ∀ i, i < n → 1 ≤ xs.getD i 0 ∧ xs.getD i 0 ≤ sp) (m : Nat) (ho : ∀ k, k < m → 0 ≤ os.getD k 0 ∧ os.getD k 0 < n) : ∀ k, k ≤ m → allB sp (cutTo sp xs os k) ∧ (cutTo sp xs os k).length ≤ k := by
  intro k
  induction k with
  | zero => intro _; exact ⟨fun y hy => (by cases hy), Nat.le_refl _⟩
  | succ k ih =>
    intro hk
    obtain ⟨h1, h2⟩ := ih (by omega)
    have h3 := ho k (by omega)
    have h4 := hx (os.getD k 0).toNat (by omega)
    refine ⟨stp_all h1 h4.1 h4.2, ?_⟩
    have := stp_len (sp := sp) (ln := xs.getD (os.getD k 0).toNat 0) (L := cutTo sp xs os k)
    rw [cutTo]; omega
theorem ord_at {n m : Nat} {os : List Int} (h : allOk (ordOk n os) m = true) : ∀ k, k < m → 0 ≤ os.getD k 0 ∧ os.getD k 0 < n := fun k hk => by
  have := allOk_at _ _ h k hk
  simp only [ordOk, Bool.and_eq_true] at this
  have := inB_tt this.1
  omega
theorem istrip1 (a b : Addr) (n c t : Nat) (y ln : Int) (w : World) (h1 : w.cell? a = some (.slice (some b) n c)) (h3 : t < n) (h4 : w.cell? (b.add t) = some (.int .i64 ln)) (bi : Nat) (h2 : w.cell? ⟨bi, 0, none⟩ = some (.int .i64 (t : Int))) :
    Calls Try.prog 50 #[.int .i64 y, .pointer (some a), .pointer (some ⟨bi, 0, none⟩)] w (Same (.bool (decide (ln ≤ y))) w) := by
  go_enter Try.func50, Try.ntmps50
  go_wp2
  go_ret
  exact ⟨rfl, rfl⟩
theorem istripIx (a b : Addr) (n c t : Nat) (ln : Int) (w : World) (h1 : w.cell? a = some (.slice (some b) n c)) (h3 : t < n) (h4 : w.cell? (b.add t) = some (.int .i64 ln)) (bi : Nat) (h2 : w.cell? ⟨bi, 0, none⟩ = some (.int .i64 (t : Int))) (A : Option Addr) (N d : Nat) (L : List Int) (hn : N ≤ 1000000) (hx : ReadsI w A N L) :
    Calls Try.prog 49 #[.slice A N d, .func (Fn.func 50) #[] #[.pointer (some a), .pointer (some ⟨bi, 0, none⟩)]] w (Same (.int .i64 (fstP (fitP ln L) N)) w) := by
  have HC := Lib.hid (fun y => istrip1 a b n c t y ln w h1 h3 h4 bi h2)
  clear h1 h2 h4
  go_enter Try.func49, Try.ntmps49
  go_wp2
  go_loop [8] (fun i => ∃ k : Nat, k ≤ N ∧ i = .int .i64 k ∧ (∀ i, i < k → fitP ln L i = false)) (fun i => N - (intOf i).toNat)
  case atStart => exact ⟨0, Nat.zero_le _, rfl, fun i hi => absurd hi (Nat.not_lt_zero _)⟩
  case round =>
    obtain ⟨k, hk, rfl, ho⟩ := hrel
    have HO := Lib.hid ho
    clear ho
    by_cases hlt : k < N
    · obtain ⟨q, rfl, hq⟩ := hx.2 k hlt
      have HK : Hid (fitP ln L k = decide (ln ≤ L.getD k 0)) := Lib.hid rfl
      generalize L.getD k 0 = x at hq HK
      by_cases h1 : ln ≤ x
      · have hd : decide (ln ≤ x) = true := decide_eq_true h1
        have HF : Hid (fstP (fitP ln L) N = k) := Lib.hid (fstP_at hlt HO.out (by rw [HK.out]; exact hd))
        go_wp2_with (refine (HC.out x).mono ?_; rintro e w' ⟨rfl, rfl⟩)
        go_ret
        exact ⟨ret_int HF.out.symm, rfl⟩
      · have hd : decide (ln ≤ x) = false := decide_eq_false h1
        have HT : Hid (fitP ln L k = false) := Lib.hid (by rw [HK.out]; exact hd)
        go_wp2_with (refine (HC.out x).mono ?_; rintro e w' ⟨rfl, rfl⟩)
        go_round
        case rel => exact ⟨k + 1, by omega, by go_num, fun i hi => by
            by_cases e : i = k
            · subst e; exact HT.out
            · exact HO.out i (by omega)⟩
        case measure => simp [intOf]; omega
    · obtain rfl : k = N := by omega
      have HF : Hid (fstP (fitP ln L) k = -1) := Lib.hid (fstP_no HO.out)
      go_wp2
      go_ret
      exact ⟨ret_int HF.out.symm, rfl⟩
end Go.Proofs.Ythadanmiomeehab
