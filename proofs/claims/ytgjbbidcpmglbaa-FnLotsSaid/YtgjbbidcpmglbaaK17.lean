/- Chapter 17: Reached: the values of the program. -/
import Derived.Test.YtgjbbidcpmglbaaR17
import Derived.Test.YtgjbbidcpmglbaaH17
import Derived.Laws.AppendOwnNone
namespace Go.Proofs.Ytgjbbidcpmglbaa
open Go.Maps Go.Sort Go.Shelf Go.ChangeShapes Go.WideShapes Go.ChangeAt Go.RowKit
set_option linter.unusedVariables false
set_option linter.unusedSimpArgs false
set_option maxHeartbeats 2000000

def ctF (F : Nat → List Int) : Nat → List Int
  | 0 => []
  | t + 1 => ctF F t ++ F t
theorem ctF_len (F : Nat → List Int) (h : ∀ t, (F t).length ≤ 51) (t : Nat) : (ctF F t).length ≤ 51 * t := by
  induction t with
  | zero => simp [ctF]
  | succ t ih => have := h t; rw [ctF, List.length_append]; omega
theorem mem_ctF (F : Nat → List Int) (x : Int) (t : Nat) : x ∈ ctF F t ↔ ∃ i, i < t ∧ x ∈ F i := by
  induction t with
  | zero => simp [ctF]
  | succ t ih =>
    rw [ctF, List.mem_append, ih]
    constructor
    · rintro (⟨i, hi, h⟩ | h)
      · exact ⟨i, by omega, h⟩
      · exact ⟨t, by omega, h⟩
    · rintro ⟨i, hi, h⟩
      by_cases e : i = t
      · subst e; exact .inr h
      · exact .inl ⟨i, by omega, h⟩
def bF (n : Nat) (xs : List UseR) (Bs : List Int) (t : Nat) : List Int := idxTo (loP n xs (Bs.getD t 0)) 51
def bedL (n : Nat) (xs : List UseR) (q : Int) : List Int := ctF (bF n xs (idxTo (brP n xs q) 51)) (idxTo (brP n xs q) 51).length
theorem bedL_len (n : Nat) (xs : List UseR) (q : Int) : (bedL n xs q).length ≤ 2601 := by
  have h1 := ctF_len (bF n xs (idxTo (brP n xs q) 51)) (fun t => idxTo_len _ _) (idxTo (brP n xs q) 51).length
  have h2 := idxTo_len (brP n xs q) 51
  unfold bedL; omega
theorem mem_bedL {n : Nat} {xs : List UseR} (hs : ∀ i, i < n → useB (xs.getD i z17).f0 (xs.getD i z17).f1 (xs.getD i z17).f2 = true) (q x : Int) : x ∈ bedL n xs q ↔ ∃ b, hasU xs q b n = true ∧ hasU xs x b n = true := by
  rw [bedL, mem_ctF]
  constructor
  · rintro ⟨i, hi, h⟩
    have hb : (idxTo (brP n xs q) 51).getD i 0 ∈ idxTo (brP n xs q) 51 := by
      rw [List.getD_eq_getElem?_getD, List.getElem?_eq_getElem hi]
      exact List.getElem_mem hi
    have h1 := (mem_idxTo _ _ _).1 hb
    have h2 := (mem_idxTo _ _ _).1 h
    refine ⟨(idxTo (brP n xs q) 51).getD i 0, ?_, ?_⟩
    · have := h1.2.2
      simp only [brP] at this
      rwa [Int.toNat_of_nonneg h1.1] at this
    · have := h2.2.2
      simp only [loP] at this
      rwa [Int.toNat_of_nonneg h2.1] at this
  · rintro ⟨b, h1, h2⟩
    have r1 := hasU_in hs h1
    have r2 := hasU_in hs h2
    have hb : b ∈ idxTo (brP n xs q) 51 := (mem_idxTo _ _ _).2 ⟨by omega, by omega, by simp only [brP]; rw [Int.toNat_of_nonneg (by omega)]; exact h1⟩
    obtain ⟨i, hi, e⟩ := List.getElem_of_mem hb
    refine ⟨i, hi, (mem_idxTo _ _ _).2 ⟨by omega, by omega, ?_⟩⟩
    simp only [loP]
    rw [Int.toNat_of_nonneg (by omega), List.getD_eq_getElem?_getD, List.getElem?_eq_getElem hi, Option.getD_some, e]
    exact h2
/-- a lot is named among the first uses -/
def setNm (xs : List UseR) : Nat → Int → Bool
  | 0 => noneB
  | k + 1 => ins (setNm xs k) (xs.getD k z17).f0
theorem setNm_iff (xs : List UseR) (x : Int) (n : Nat) : setNm xs n x = true ↔ ∃ k, k < n ∧ (xs.getD k z17).f0 = x := by
  induction n with
  | zero => simp [setNm, noneB]
  | succ n ih =>
    simp only [setNm, ins, Bool.or_eq_true, decide_eq_true_eq, ih]
    constructor
    · rintro (rfl | ⟨k, hk, h⟩)
      · exact ⟨n, by omega, rfl⟩
      · exact ⟨k, by omega, h⟩
    · rintro ⟨k, hk, h⟩
      by_cases e : k = n
      · subst e; exact .inl h.symm
      · exact .inr ⟨k, by omega, h⟩
def uns (n : Nat) (xs : List UseR) (R : List Int) : Int → Bool := fun x => setNm xs n x && !memL R x
theorem uns_one (n : Nat) (xs : List UseR) (a : Int) : rem (setNm xs n) a = uns n xs [a] := by
  funext x; simp only [rem, uns, memL, List.mem_singleton]; cases decide (x = a) <;> cases setNm xs n x <;> rfl
theorem uns_app (n : Nat) (xs : List UseR) (R : List Int) (a : Int) : rem (uns n xs R) a = uns n xs (R ++ [a]) := by
  funext x
  simp only [rem, uns, memL, List.mem_append, List.mem_singleton]
  by_cases h1 : x = a <;> by_cases h2 : x ∈ R <;> cases setNm xs n x <;> simp [h1, h2]
theorem Rch.named {n : Nat} {xs : List UseR} {a x : Int} (h : Rch n xs a x) : ∃ k, k < n ∧ (xs.getD k z17).f0 = a := by
  induction h with
  | start h => exact h
  | step _ _ _ ih => exact ih
theorem reach_none {n : Nat} {xs : List UseR} (hB : usesB n xs = true) (a : Int) (h : setNm xs n a = false) : idxTo (reP n xs a) 51 = [] := by
  have : ∀ k, idxTo (reP n xs a) k = [] := fun k => by
    induction k with
    | zero => rfl
    | succ k ih =>
      rw [idxTo_f, ih]
      cases e : reP n xs a k
      · rfl
      · have h1 := (setNm_iff xs a n).2 ((reach_iff hB a k).1 e).named
        rw [h] at h1; cases h1
  exact this 51
/-- what the program keeps to: a list of reached lots, of which the first t have all their neighbours in it -/
structure Bfs (n : Nat) (xs : List UseR) (a : Int) (R : List Int) (t : Nat) : Prop where
  nodup : R.Nodup
  rch : ∀ x ∈ R, Rch n xs a x
  has : a ∈ R
  le : t ≤ R.length
  done : ∀ j, j < t → ∀ b l', hasU xs (R.getD j 0) b n = true → hasU xs l' b n = true → l' ∈ R
theorem Bfs.len {n : Nat} {xs : List UseR} (hB : usesB n xs = true) {a : Int} {R : List Int} {t : Nat} (h : Bfs n xs a R t) : R.length ≤ 51 := by
  have hp : R.Perm (idxTo (mP R) 51) := by
    refine (List.perm_ext_iff_of_nodup h.nodup ((idxTo_pair _ _).imp fun h => Int.ne_of_lt h)).2 fun x => ?_
    rw [mem_idxTo]
    constructor
    · intro hx
      have := (h.rch x hx).range hB
      exact ⟨by omega, by omega, by simpa [mP, memL, Int.toNat_of_nonneg (show 0 ≤ x by omega)] using hx⟩
    · rintro ⟨h0, _, hx⟩
      simpa [mP, memL, Int.toNat_of_nonneg h0] using hx
  rw [hp.length_eq]
  exact idxTo_len _ _
theorem Bfs.app {n : Nat} {xs : List UseR} {a : Int} {R : List Int} {t : Nat} (h : Bfs n xs a R t) {q b x : Int} (hq : q ∈ R) (h1 : hasU xs q b n = true) (h2 : hasU xs x b n = true) (hx : x ∉ R) : Bfs n xs a (R ++ [x]) t where
  nodup := List.nodup_append.2 ⟨h.nodup, by simp, fun u hu v hv => by simp at hv; subst hv; exact fun e => hx (e ▸ hu)⟩
  rch := fun y hy => by
    rcases List.mem_append.1 hy with hy | hy
    · exact h.rch y hy
    · simp at hy; subst hy; exact .step (h.rch q hq) h1 h2
  has := List.mem_append.2 (.inl h.has)
  le := by have := h.le; simp; omega
  done := fun j hj b' l' h3 h4 => by
    have := h.le
    rw [List.getD_eq_getElem?_getD, List.getElem?_append_left (by omega), ← List.getD_eq_getElem?_getD] at h3
    exact List.mem_append.2 (.inl (h.done j hj b' l' h3 h4))
theorem Bfs.fin {n : Nat} {xs : List UseR} (hB : usesB n xs = true) {a : Int} {R : List Int} (h : Bfs n xs a R R.length) : R.mergeSort leI = idxTo (reP n xs a) 51 := by
  have tr : ∀ a b c : Int, leI a b = true → leI b c = true → leI a c = true := fun a b c h1 h2 => by simp only [leI, decide_eq_true_eq] at *; exact Int.le_trans h1 h2
  have to : ∀ a b : Int, (leI a b || leI b a) = true := fun a b => by simp only [leI, Bool.or_eq_true, decide_eq_true_eq]; exact Int.le_total a b
  have hp := List.mergeSort_perm R leI
  have hs := List.pairwise_mergeSort tr to R
  have hnd : (R.mergeSort leI).Nodup := hp.nodup_iff.2 h.nodup
  have hlt : (R.mergeSort leI).Pairwise (· < ·) := (hs.and hnd).imp fun {a b} hab => by
    have h1 := hab.1
    simp only [leI, decide_eq_true_eq] at h1
    have h2 := hab.2
    omega
  refine lt_ext hlt (idxTo_pair _ _) fun x => ?_
  rw [hp.mem_iff, mem_idxTo]
  have hmem : ∀ y, Rch n xs a y → y ∈ R := fun y hy => by
    induction hy with
    | start _ => exact h.has
    | step _ h1 h2 ih =>
      obtain ⟨j, hj, e⟩ := List.getElem_of_mem ih
      refine h.done j hj _ _ ?_ h2
      rw [List.getD_eq_getElem?_getD, List.getElem?_eq_getElem hj, Option.getD_some, e]
      exact h1
  constructor
  · intro hx
    have hr := h.rch x hx
    have := hr.range hB
    refine ⟨by omega, by omega, ?_⟩
    show (rnds n xs (startP n xs a) 60).1 ((x.toNat : Nat) : Int) = true
    rw [Int.toNat_of_nonneg (by omega)]
    exact (reach_iff hB a x).2 hr
  · rintro ⟨h0, _, hx⟩
    have hx' : (rnds n xs (startP n xs a) 60).1 ((x.toNat : Nat) : Int) = true := hx
    rw [Int.toNat_of_nonneg h0] at hx'
    exact hmem x ((reach_iff hB a x).1 hx')
theorem own_ge17 {w : World} {B n : Nat} {e : TypeId} {size : Nat} {v : Value} {xs : List Value} (h : w.ownsRow B e size v n xs) : ∀ j, v.ownBlock = some j → B ≤ j := by
  intro j hj
  rcases h.2 with ⟨rfl, _⟩ | ⟨g, cap, cur, rfl, hg, _⟩
  · cases hj
  · simp [Value.ownBlock] at hj; omega
theorem own_other {w w' : World} {B g n : Nat} {e : TypeId} {size : Nat} {v : Value} {xs : List Value} (h : w.ownsRow B e size v n xs) (hb : w.grownBy w' (some g)) (hne : ∀ j, v.ownBlock = some j → j ≠ g) : w'.ownsRow B e size v n xs := by
  have hl := own_lt h
  refine ⟨h.1, ?_⟩
  rcases h.2 with hn | ⟨g', cap, cur, rfl, hg', hh, rest⟩
  · exact .inl hn
  · exact .inr ⟨g', cap, cur, rfl, hg', (hb.block g' (hl g' (by simp [Value.ownBlock])) (fun e => by injection e with e; exact hne g' (by simp [Value.ownBlock]) e)).trans hh, rest⟩
set_option maxRecDepth 20000 in
set_option maxHeartbeats 4000000 in
theorem ilotsBeside (A : Option Addr) (n c : Nat) (xs : List UseR) (q : Int) (w : World) (hn : n ≤ maxLen) (hx : ReadsUse w A n xs) (hB : usesB n xs = true) : Calls Try.prog 80 #[.slice A n c, .int .i64 q] w (RowB (bedL n xs q) w) := by
  obtain ⟨i0, hi0, hz0, hz1, hz2⟩ := info_parts infoI
  have HX := Lib.hid hx
  have HN := Lib.hid hn
  clear hx hn
  have HBV : Hid (BreadsOfL n xs q = idxTo (brP n xs q) 51) := Lib.hid (by simp [BreadsOfL, hB])
  have HLV : Hid (∀ b, LotsOfL n xs b = idxTo (loP n xs b) 51) := Lib.hid (fun b => by simp [LotsOfL, hB])
  have HBE : Hid (bedL n xs q = ctF (bF n xs (idxTo (brP n xs q) 51)) (idxTo (brP n xs q) 51).length) := Lib.hid rfl
  have hbl := idxTo_len (brP n xs q) 51
  go_enter Try.func80, Try.ntmps80
  go_wp2_with fail
  refine (iBreadsOf A n c xs q _ HN.out HX.out).mono ?_
  rintro _ w1 ⟨B1, e1, rfl, hob, hb1⟩
  rw [HBV.out] at hob
  rw [HBV.out]
  have RB := Lib.hid (reads_own_i hob)
  have HI1 := Lib.hid (In.step (In.refl w) hb1)
  clear hob hb1 HBV
  generalize idxTo (brP n xs q) 51 = Bs at *
  generalize Bs.length = u at *
  have hown0 : w1.ownsRow w1.heap.size 3 1 (.slice none 0 0) 0 (iv []) := ⟨rfl, .inl ⟨rfl, rfl⟩⟩
  go_wp2
  go_loopw [5, 12] (fun v i wr => ∃ t : Nat, t ≤ u ∧ i = .int .i64 t ∧ wr.ownsRow w1.heap.size 3 1 v (ctF (bF n xs Bs) t).length (iv (ctF (bF n xs Bs) t)) ∧ In w1.heap.size w1 wr) (fun _ i _ => u - (intOf i).toNat)
  case atStart => exact ⟨0, Nat.zero_le _, rfl, hown0, In.refl _⟩
  case round =>
    clear hown0
    obtain ⟨t, ht, rfl, hown, hi⟩ := hrel
    obtain ⟨A1, c1, rfl⟩ := own_shape_i hown
    by_cases hlt : t < u
    · obtain ⟨a', ha', hc'⟩ := (RB.out.below hi.below (Nat.le_refl _)).2 t hlt
      have HCT : Hid (ctF (bF n xs Bs) (t + 1) = ctF (bF n xs Bs) t ++ idxTo (loP n xs (Bs.getD t 0)) 51) := Lib.hid rfl
      have hLl := ctF_len (bF n xs Bs) (fun t => idxTo_len _ _) t
      generalize Bs.getD t 0 = b at hc' HCT
      generalize hL : ctF (bF n xs Bs) t = L at *
      have HLE := Lib.hid hL
      clear hL
      subst ha'
      go_wp2_with fail
      refine (iLotsOf A n c xs b _ HN.out (HX.out.in_ (HI1.out.trans hi))).mono ?_
      rintro _ w2 ⟨C, c', rfl, hr, hb2⟩
      rw [HLV.out] at hr
      rw [HLV.out]
      have hrl := idxTo_len (loP n xs b) 51
      generalize idxTo (loP n xs b) 51 = r at *
      have hown2 : w2.ownsRow w1.heap.size 3 1 (.slice A1 L.length c1) L.length (iv L) := own_step hown hb2
      have hi2 := In.step hi hb2
      clear hown hi hb2 hc'
      cases hC : C with
      | none =>
        subst hC
        have hr0 : r = [] := by
          rcases hr.2 with ⟨_, h⟩ | ⟨g, cap, cur, h, _⟩
          · exact List.length_eq_zero_iff.1 h
          · injection h with h; cases h
        have hc0 : c' = 0 := by
          rcases hr.2 with ⟨h, _⟩ | ⟨g, cap, cur, h, _⟩
          · injection h
          · injection h with h; cases h
        subst hr0 hc0
        have hown3 : w2.ownsRow w1.heap.size 3 1 (.slice A1 L.length c1) (ctF (bF n xs Bs) (t + 1)).length (iv (ctF (bF n xs Bs) (t + 1))) := by rw [HCT.out, List.append_nil]; exact hown2
        clear hr
        go_wp2_with (first | (go_at_call 66; refine (iIn _ _ _ _).mono ?_; rintro e w' ⟨rfl, rfl⟩) | (at_builtin; refine wpList_append_own_none rfl (.tmp 16) (.tmp 19) 27 rfl w1.heap.size 3 i0 1 Try.underlying27 hi0 (.slice A1 L.length c1) L.length (iv L) rfl hown2 rfl ?_))
        go_wp2
        go_roundw
        case rel => exact ⟨t + 1, by omega, by go_num, hown3, hi2⟩
        case measure => simp [intOf]; omega
      | some ad =>
        subst hC
        have hrr := reads_own_i hr
        have hcells : ∀ (j : Nat) u, (iv r)[j]? = some u → w2.cell? (ad.add j) = some u := fun j u hu => by
          have hj : j < r.length := by
            have := (List.getElem?_eq_some_iff.1 hu).1
            rw [iv_len] at this; exact this
          obtain ⟨a', ha', hc⟩ := hrr.2 j hj
          injection ha' with ha'
          subst ha'
          rw [hc, ← iv_at r j hj]; exact hu
        have HCE := Lib.hid hcells
        have HON : Hid (∀ u ∈ iv r, u.oneCell' = true) := Lib.hid fun u hu => by
          simp only [iv, List.mem_map] at hu
          obtain ⟨x, _, rfl⟩ := hu
          rfl
        have hq1 : L.length + r.length ≤ maxLen := by unfold maxLen; omega
        have hq2 : (L.length + r.length) * 8 ≤ 140737488355328 := by omega
        have HLN : Hid ((iv r).length = r.length * 1) := Lib.hid (by rw [iv_len]; omega)
        have HGE := Lib.hid (own_ge17 hown2)
        have hbase := hi2.size
        clear hcells hrr hr
        go_wp2_with (first | (go_at_call 66; refine (iIn _ _ _ _).mono ?_; rintro e w' ⟨rfl, rfl⟩) | (at_builtin; (refine wpList_append_own _ rfl (.tmp 16) (.tmp 19) 27 rfl w1.heap.size 3 i0 (.int .i64 0) 1 8 Try.underlying27 hi0 hz0 hz1 hz2 rfl Nat.one_pos (.slice A1 L.length c1) L.length (iv L) rfl hown2 ad r.length c' (iv r) rfl HLN.out HCE.out HON.out hq1 hq2 hbase ?_); intro v9 w9 hown9 hgr9 hv9))
        have hi9 : In w1.heap.size w1 w9 := ⟨hi2.below.grown hgr9 hi2.size HGE.out, Nat.le_trans hi2.size hgr9.size⟩
        have hown3 : w9.ownsRow w1.heap.size 3 1 v9 (ctF (bF n xs Bs) (t + 1)).length (iv (ctF (bF n xs Bs) (t + 1))) := by rw [HCT.out, iv_app, List.length_append]; exact hown9
        clear hown9 hgr9 hv9 hown2 hbase
        go_wp2
        go_roundw
        case rel => exact ⟨t + 1, by omega, by go_num, hown3, hi9⟩
        case measure => simp [intOf]; omega
    · obtain rfl : u = t := by omega
      have hi1 := HI1.out.trans hi
      have hown2 := own_base hown HI1.out.size
      go_wp2
      go_ret
      rw [HBE.out]
      exact rowB_of rfl hown2 hi1.below
end Go.Proofs.Ytgjbbidcpmglbaa
