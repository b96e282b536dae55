/- Chapter 21: TripsOk, WayOf. -/
import Derived.Test.YtkibabajalajeaaC21
import Derived.Test.YtkibabajalajeaaSS2
import Derived.Test.YtkibabajalajeaaOrd
import Derived.Test.YtkibabajalajeaaOwnM
import Derived.Test.YtkibabajalajeaaIntI
import Derived.Laws.AppendOwnNone
import Derived.BigQuiet
import Derived.Deep.QuietTactic
namespace Go.Proofs.Ytkibabajalajeaa
open Go.ChangeShapes Go.WideShapes Go.ChangeAt Go.RowKit
set_option linter.unusedVariables false
set_option linter.unusedSimpArgs false
set_option maxHeartbeats 2000000

def cat (ts : List IntSR) : Nat → List Int
  | 0 => []
  | t + 1 => cat ts t ++ ts.getD t []
theorem cat_len (ts : List IntSR) (t : Nat) : (cat ts (t + 1)).length = (cat ts t).length + (ts.getD t []).length := by simp [cat]
theorem cat_tot (ts : List IntSR) (t : Nat) : ((cat ts t).length : Int) = totTo ts t := by
  induction t with
  | zero => rfl
  | succ t ih =>
    have h3 : totTo ts (t + 1) = totTo ts t + ((ts.getD t []).length : Int) := rfl
    rw [cat_len, h3, ← ih]; simp
theorem cat_le (ts : List IntSR) {a b : Nat} (h : a ≤ b) : (cat ts a).length ≤ (cat ts b).length := by
  have := totTo_nn ts a b h
  have h1 := cat_tot ts a
  have h2 := cat_tot ts b
  omega
theorem cat_pre (ts : List IntSR) (a d i : Nat) (hi : i < (cat ts a).length) : (cat ts (a + d)).getD i 0 = (cat ts a).getD i 0 := by
  induction d with
  | zero => rfl
  | succ d ih =>
    have := cat_le ts (show a ≤ a + d by omega)
    rw [show a + (d + 1) = a + d + 1 by omega, cat, List.getD_eq_getElem?_getD, List.getElem?_append_left (by omega), ← List.getD_eq_getElem?_getD]
    exact ih
theorem cat_at (ts : List IntSR) {t m k : Nat} (ht : t < m) (hk : k < (ts.getD t []).length) : (cat ts m).getD ((cat ts t).length + k) 0 = (ts.getD t []).getD k 0 := by
  have h := cat_pre ts (t + 1) (m - (t + 1)) ((cat ts t).length + k) (by rw [cat_len]; omega)
  rw [show t + 1 + (m - (t + 1)) = m by omega] at h
  rw [h, cat, List.getD_eq_getElem?_getD, List.getElem?_append_right (by omega), List.getD_eq_getElem?_getD]
  congr 2
  omega
def rowS (xs : List ShopR) (r : List Int) (k : Nat) : Int := sumTo (fun i => (xs.getD (r.getD i 0).toNat z21).f1) k
def rowOk (xs : List ShopR) (ts : List IntSR) (room : Int) (t : Nat) : Bool := decide (rowS xs (ts.getD t []) (ts.getD t []).length ≤ room)
def ordAll (n m : Nat) (ts : List IntSR) : Bool := decide ((cat ts m).length = n) && allOk (ordOk n (cat ts m)) (cat ts m).length
def tripsV (n : Nat) (xs : List ShopR) (m : Nat) (ts : List IntSR) (room : Int) : Bool := shopsB n xs && (inB room 1 100 && (ordAll n m ts && allOk (rowOk xs ts room) m))
theorem loaves_in {n : Nat} {xs : List ShopR} (h : shopsB n xs = true) {i : Nat} (hi : i < n) : 1 ≤ (xs.getD i z21).f1 ∧ (xs.getD i z21).f1 ≤ 100 ∧ 0 ≤ (xs.getD i z21).f0 ∧ (xs.getD i z21).f0 ≤ 1000 := by
  have h1 := shops_at h
  have h2 := shB_in (h1.2 i hi)
  have h3 := (shPre_in i fun j hj => h1.2 j (by omega)).1
  omega
theorem rowS_in {n : Nat} {xs : List ShopR} (h : shopsB n xs = true) {r : List Int} {k : Nat} (hr : ∀ i, i < k → 0 ≤ r.getD i 0 ∧ r.getD i 0 < n) : 0 ≤ rowS xs r k ∧ rowS xs r k ≤ k * 100 :=
  sumTo_bd _ 100 k fun i hi => by
    have := hr i hi
    have := loaves_in h (i := (r.getD i 0).toNat) (by omega)
    show 0 ≤ (xs.getD (r.getD i 0).toNat z21).f1 ∧ (xs.getD (r.getD i 0).toNat z21).f1 ≤ 100
    omega
theorem ord_rng {n : Nat} {os : List Int} {k : Nat} (h : ordOk n os k = true) : 0 ≤ os.getD k 0 ∧ os.getD k 0 < n := by
  simp only [ordOk, Bool.and_eq_true] at h
  have := inB_tt h.1
  omega
theorem ordAll_f {n m : Nat} {ts : List IntSR} (p : Nat) (hp : p < (cat ts m).length) (h : ordOk n (cat ts m) p = false) : ordAll n m ts = false := by
  simp [ordAll, allOk_f _ _ p hp h]
/-- an order of n things is no longer than n -/
theorem seen_len {n p : Nat} {os : List Int} (h : ∀ i, i < p → ordOk n os i = true) : p ≤ n := by
  rcases Nat.lt_or_ge n p with hlt | hge
  · exfalso
    have hin : ∀ i, i < p → 0 ≤ os.getD i 0 ∧ os.getD i 0 < n := fun i hi => ord_rng (h i hi)
    have hs : ∀ j t, seenB os j t = true ↔ ∃ i, i < j ∧ os.getD i 0 = t := by
      intro j t
      induction j with
      | zero => simp [seenB]
      | succ j ih =>
        rw [seenB, Bool.or_eq_true, ih, beq_iff_eq]
        constructor
        · rintro (hv | ⟨i, hi, hv⟩)
          · exact ⟨j, by omega, hv⟩
          · exact ⟨i, by omega, hv⟩
        · rintro ⟨i, hi, hv⟩
          by_cases e : i = j
          · subst e; exact .inl hv
          · exact .inr ⟨i, by omega, hv⟩
    have hd : ∀ i j, i < j → j < p → os.getD i 0 ≠ os.getD j 0 := fun i j hij hj he => by
      have h1 := h j hj
      simp only [ordOk, Bool.and_eq_true, Bool.not_eq_true'] at h1
      rw [(hs j (os.getD j 0)).2 ⟨i, hij, he⟩] at h1
      exact absurd h1.2 (by simp)
    -- the first n of them hit every number below n
    have key : ∀ k, k ≤ n → ∀ f : Nat → Nat, (∀ i, i < k + 1 → f i < k) → ∃ i j, i < j ∧ j < k + 1 ∧ f i = f j := by
      intro k
      induction k with
      | zero => intro _ f hf; have := hf 0 (by omega); omega
      | succ k ih =>
        intro hk f hf
        by_cases hex : ∃ i, i < k + 1 ∧ f i = f (k + 1)
        · obtain ⟨i, hi, he⟩ := hex
          exact ⟨i, k + 1, by omega, by omega, he⟩
        · let g : Nat → Nat := fun i => if f i = k then f (k + 1) else f i
          have hl := hf (k + 1) (by omega)
          obtain ⟨i, j, hij, hj, he⟩ := ih (by omega) g (fun i hi => by
            show (if f i = k then f (k + 1) else f i) < k
            have h1 := hf i (by omega)
            split
            · rename_i he
              have : f (k + 1) ≠ k := fun h => hex ⟨i, hi, by omega⟩
              omega
            · omega)
          refine ⟨i, j, hij, by omega, ?_⟩
          have he' : (if f i = k then f (k + 1) else f i) = (if f j = k then f (k + 1) else f j) := he
          split at he' <;> split at he'
          · omega
          · exact absurd ⟨j, hj, he'.symm⟩ hex
          · exact absurd ⟨i, by omega, he'⟩ hex
          · exact he'
    obtain ⟨i, j, hij, hj, he⟩ := key n (Nat.le_refl _) (fun i => (os.getD i 0).toNat) (fun i hi => by have := hin i (by omega); show (os.getD i 0).toNat < n; omega)
    have h1 := hin i (by omega)
    have h2 := hin j (by omega)
    have he : (os.getD i 0).toNat = (os.getD j 0).toNat := he
    exact hd i j hij (by omega) (by omega)
  · exact hge
theorem own_ge21 {w : World} {B m : Nat} {v : Value} {xs : List Value} (ho : w.ownsRow B 3 1 v m xs) : ∀ j, v.ownBlock = some j → B ≤ j := by
  intro j hj
  rcases ho.2 with ⟨rfl, _⟩ | ⟨g2, cap, cur2, rfl, hg, hh, _⟩
  · simp [Value.ownBlock] at hj
  · simp [Value.ownBlock] at hj
    omega
theorem icanDrive (A : Option Addr) (n c : Nat) (xs : List ShopR) (room : Int) (w : World) (hn : n ≤ maxLen) (hx : ReadsShop w A n xs) : Calls Try.prog 50 #[.slice A n c, .int .i64 room] w (Val (.bool (shopsB n xs && inB room 1 100)) w) := by
  go_enter Try.func50, Try.ntmps50
  go_wp2_with fail
  refine (iShopsOk A n c xs _ hn hx).mono ?_
  rintro _ w1 ⟨rfl, hb1⟩
  cases h1 : shopsB n xs
  · go_wp2
    go_ret
    exact Val.mk' (v_bool (by simp [h1])) (by (repeat (first | exact In.refl _ | assumption | apply In.alloc | apply In.drewN | apply In.drew | (refine In.step ?_ (by assumption)))))
  go_wp2_with fail
  refine (iIn room 1 100 _).mono ?_
  rintro _ _ ⟨rfl, rfl⟩
  go_wp2
  go_ret
  exact Val.mk' (v_bool (by simp [h1])) (by (repeat (first | exact In.refl _ | assumption | apply In.alloc | apply In.drewN | apply In.drew | (refine In.step ?_ (by assumption)))))
set_option maxHeartbeats 4000000 in
set_option maxRecDepth 20000 in
theorem iTripsOk (A : Option Addr) (n c : Nat) (xs : List ShopR) (B : Option Addr) (m d : Nat) (ts : List IntSR) (room : Int) (w : World) (hn : n ≤ maxLen) (hx : ReadsShop w A n xs) (hm : m ≤ maxLen) (htt : totTo ts m ≤ 1048576) (ht : ReadsIntS w B m ts) : Calls Try.prog 14 #[.slice A n c, .slice B m d, .int .i64 room] w (Val (.bool (tripsV n xs m ts room)) w) := by
  obtain ⟨i0, hi0, hz0, hz1, hz2⟩ := info_parts infoI
  have HV : Hid (tripsV n xs m ts room = (shopsB n xs && (inB room 1 100 && (ordAll n m ts && allOk (rowOk xs ts room) m)))) := Lib.hid rfl
  have HXX := Lib.hid hx
  have HTT := Lib.hid ht
  have hcm : (cat ts m).length ≤ 1048576 := by have := cat_tot ts m; omega
  have hmm : m < 2 ^ 63 - 1 + 1 := by unfold maxLen at hm; omega
  go_enter Try.func14, Try.ntmps14
  go_wp2_with fail
  refine (icanDrive A n c xs room _ hn hx).mono ?_
  rintro _ w1 ⟨rfl, hb1⟩
  cases h1 : (shopsB n xs && inB room 1 100)
  · have HF : Hid (tripsV n xs m ts room = false) := Lib.hid (by rw [HV.out, ← Bool.and_assoc, h1]; rfl)
    go_wp2
    go_ret
    exact Val.mk' (v_bool HF.out.symm) (by (repeat (first | exact In.refl _ | assumption | apply In.alloc | apply In.drewN | apply In.drew | (refine In.step ?_ (by assumption)))))
  have h12 := h1
  rw [Bool.and_eq_true] at h12
  have HSH := Lib.hid h12.1
  have hrm := inB_tt h12.2
  have hn10 := (shops_at h12.1).1
  have HE : Hid (tripsV n xs m ts room = (ordAll n m ts && allOk (rowOk xs ts room) m)) := Lib.hid (by rw [HV.out, ← Bool.and_assoc, h1]; rfl)
  have hI1 : In w.heap.size w w1 := by (repeat (first | exact In.refl _ | assumption | apply In.alloc | apply In.drewN | apply In.drew | (refine In.step ?_ (by assumption))))
  have hown0 : w1.ownsRow w.heap.size 3 1 (.slice none 0 0) 0 (iv []) := ⟨rfl, .inl ⟨rfl, rfl⟩⟩
  clear hx ht hb1 h1 h12 HV htt
  unfold maxLen at hm
  go_wp2
  go_loopw [7, 21] (fun v i wr => ∃ t : Nat, t ≤ m ∧ i = .int .i64 t ∧ wr.ownsRow w.heap.size 3 1 v (cat ts t).length (iv (cat ts t)) ∧ In w.heap.size w wr) (fun _ i _ => m - (intOf i).toNat)
  case atStart => exact ⟨0, Nat.zero_le _, rfl, hown0, hI1⟩
  case round =>
    clear hown0 hI1
    obtain ⟨t, htm, rfl, hown, hi⟩ := hrel
    obtain ⟨A1, c1, rfl⟩ := own_shape_i hown
    by_cases hlt : t < m
    · obtain ⟨b, rfl, C, c', h0, g1, g2, hnn, hr⟩ := (HTT.out.in_ hi).2 t hlt
      have HCL : Hid (cat ts (t + 1) = cat ts t ++ ts.getD t []) := Lib.hid rfl
      have hcl2 := cat_le ts (show t + 1 ≤ m from hlt)
      rw [cat_len] at hcl2
      generalize ts.getD t [] = r at *
      generalize hL : cat ts t = L at *
      have HL := Lib.hid hL
      clear hL
      have hbase := hi.size
      cases hC : C with
      | none =>
        have hc0 := hnn hC
        have hr0 : r = [] := by
          have : r.length = 0 := by omega
          exact List.length_eq_zero_iff.1 this
        subst hC hc0 hr0
        have hown2 : wr.ownsRow w.heap.size 3 1 (.slice A1 L.length c1) (cat ts (t + 1)).length (iv (cat ts (t + 1))) := by rw [HCL.out, List.append_nil]; exact hown
        clear hnn hr g1 g2
        go_wp2_with (first | (go_at_call 48; refine (sIn _ _ _ _).mono ?_; rintro e w' ⟨rfl, rfl⟩) | (go_at_call 57; refine (iIn _ _ _ _).mono ?_; rintro e w' ⟨rfl, rfl⟩) | (at_builtin; refine wpList_append_own_none rfl (.tmp 25) (.tmp 26) 52 rfl w.heap.size 3 i0 1 Try.underlying52 hi0 (.slice A1 L.length c1) L.length (iv L) rfl hown rfl ?_))
        go_wp2
        go_roundw
        case rel => exact ⟨t + 1, by omega, by go_num, hown2, hi⟩
        case measure => simp [intOf]; omega
      | some ad =>
        subst hC
        have hcells : ∀ (j : Nat) u, (iv r)[j]? = some u → wr.cell? (ad.add j) = some u := fun j u hu => by
          have hj : j < r.length := by
            have := (List.getElem?_eq_some_iff.1 hu).1
            rw [iv_len] at this; exact this
          obtain ⟨a', ha', hc⟩ := hr.2 j hj
          injection ha' with ha'
          subst ha'
          rw [hc, ← iv_at r j hj]; exact hu
        have HCE := Lib.hid hcells
        have HON : Hid (∀ u ∈ iv r, u.oneCell' = true) := Lib.hid fun u hu => by
          simp only [iv, List.mem_map] at hu
          obtain ⟨x, _, rfl⟩ := hu
          rfl
        have hb1 : L.length + r.length ≤ maxLen := by unfold maxLen; omega
        have hb2 : (L.length + r.length) * 8 ≤ 140737488355328 := by omega
        have HLN : Hid ((iv r).length = r.length * 1) := Lib.hid (by rw [iv_len]; omega)
        have HGE := Lib.hid (own_ge21 hown)
        clear hnn hr g1 g2 hcells
        go_wp2_with (first | (go_at_call 48; refine (sIn _ _ _ _).mono ?_; rintro e w' ⟨rfl, rfl⟩) | (go_at_call 57; refine (iIn _ _ _ _).mono ?_; rintro e w' ⟨rfl, rfl⟩) | (at_builtin; (refine wpList_append_own _ rfl (.tmp 25) (.tmp 26) 52 rfl w.heap.size 3 i0 (.int .i64 0) 1 8 Try.underlying52 hi0 hz0 hz1 hz2 rfl Nat.one_pos (.slice A1 L.length c1) L.length (iv L) rfl hown ad r.length c' (iv r) rfl HLN.out HCE.out HON.out hb1 hb2 hbase ?_); intro v9 w9 hown9 hgr9 hv9))
        have hi9 : In w.heap.size w w9 := ⟨hi.below.grown hgr9 hi.size HGE.out, Nat.le_trans hi.size hgr9.size⟩
        have hown2 : w9.ownsRow w.heap.size 3 1 v9 (cat ts (t + 1)).length (iv (cat ts (t + 1))) := by rw [HCL.out, iv_app, List.length_append]; exact hown9
        clear hown9 hgr9 hv9 hown hbase
        go_wp2
        go_roundw
        case rel => exact ⟨t + 1, by omega, by go_num, hown2, hi9⟩
        case measure => simp [intOf]; omega
    · obtain rfl : t = m := by omega
      have HRO := Lib.hid (reads_own_i hown)
      have HOE : Hid (ordAll n t ts = (decide ((cat ts t).length = n) && allOk (ordOk n (cat ts t)) (cat ts t).length)) := Lib.hid rfl
      have HTW := Lib.hid (HTT.out.in_ hi)
      have HXW := Lib.hid (HXX.out.in_ hi)
      clear hown
      go_wp2_with fail
      refine (iisOrder A1 (cat ts t).length c1 n (cat ts t) _ (by unfold maxLen; omega) (by omega) HRO.out).mono ?_
      rintro _ w2 ⟨rfl, hb2⟩
      rw [← HOE.out]
      cases h2 : ordAll n t ts
      · have HF : Hid (tripsV n xs t ts room = false) := Lib.hid (by rw [HE.out, h2]; rfl)
        go_wp2
        go_ret
        exact Val.mk' (v_bool HF.out.symm) (by (repeat (first | exact In.refl _ | assumption | apply In.alloc | apply In.drewN | apply In.drew | (refine In.step ?_ (by assumption)))))
      have hI2 : In w.heap.size w w2 := hi.step hb2
      have HORD : Hid (∀ k, k < (cat ts t).length → ordOk n (cat ts t) k = true) := Lib.hid (by
        rw [HOE.out, Bool.and_eq_true] at h2
        exact fun k hk => allOk_at _ _ h2.2 k hk)
      have HE2 : Hid (tripsV n xs t ts room = allOk (rowOk xs ts room) t) := Lib.hid (by rw [HE.out, h2]; rfl)
      have HTW := Lib.hid (HTT.out.in_ hI2)
      have HXW := Lib.hid (HXX.out.in_ hI2)
      clear h2 HE HOE HRO hb2 htm hlt hi
      go_wp2
      go_loop [36] (fun i => ∃ q : Nat, q ≤ t ∧ i = .int .i64 q ∧ (∀ i, i < q → rowOk xs ts room i = true)) (fun i => t - (intOf i).toNat)
      case atStart => exact ⟨0, Nat.zero_le _, rfl, fun i hi => absurd hi (Nat.not_lt_zero _)⟩
      case round =>
        obtain ⟨q, hq, rfl, ho⟩ := hrel
        have HO := Lib.hid ho
        clear ho
        by_cases hlt : q < t
        · obtain ⟨b, rfl, C, c', h0, g1, g2, hnn, hr⟩ := HTW.out.2 q hlt
          have hle := cat_le ts (show q + 1 ≤ t from hlt)
          rw [cat_len] at hle
          have HIN : Hid (∀ k, k < (ts.getD q []).length → 0 ≤ (ts.getD q []).getD k 0 ∧ (ts.getD q []).getD k 0 < n) := Lib.hid fun k hk => by
            have h1 := ord_rng (HORD.out ((cat ts q).length + k) (by omega))
            rw [cat_at ts hlt hk] at h1
            exact h1
          have HK : Hid (rowOk xs ts room q = decide (rowS xs (ts.getD q []) (ts.getD q []).length ≤ room)) := Lib.hid rfl
          generalize ts.getD q [] = r at *
          have HR := Lib.hid hr
          have hrl : r.length ≤ 1048576 := by omega
          clear g1 g2 hnn hr hle
          go_wp2
          clear h0
          go_loop [12, 42] (fun s i => ∃ k : Nat, k ≤ r.length ∧ i = .int .i64 k ∧ s = .int .i64 (rowS xs r k)) (fun _ i => r.length - (intOf i).toNat)
          case atStart => exact ⟨0, Nat.zero_le _, rfl, rfl⟩
          case round =>
            obtain ⟨k, hk, rfl, rfl⟩ := hrel
            have hsb := rowS_in HSH.out (r := r) (k := k) fun i hi => HIN.out i (by omega)
            by_cases hlt2 : k < r.length
            · obtain ⟨b2, rfl, hb⟩ := HR.out.2 k hlt2
              have hy := HIN.out k hlt2
              have HS1 : Hid (rowS xs r (k + 1) = rowS xs r k + (xs.getD (r.getD k 0).toNat z21).f1) := Lib.hid rfl
              generalize rowS xs r k = s at *
              generalize r.getD k 0 = y at *
              obtain ⟨Y, rfl⟩ : ∃ Y : Nat, y = (Y : Int) := ⟨y.toNat, by omega⟩
              simp only [Int.toNat_natCast] at HS1
              have hYn : Y < n := by omega
              have hlv := loaves_in HSH.out hYn
              obtain ⟨a, rfl, ca0, ca1⟩ := HXW.out.2 Y hYn
              generalize xs.getD Y z21 = sh at *
              obtain ⟨s0, s1⟩ := sh
              simp only at ca0 ca1 hlv HS1
              go_wp2
              go_round
              case rel => exact ⟨k + 1, by omega, by go_num, v_int HS1.out.symm⟩
              case measure => simp [intOf]; omega
            · obtain rfl : k = r.length := by omega
              generalize rowS xs r r.length = s at *
              by_cases hgt : room < s
              · have HF : Hid (tripsV n xs t ts room = false) := Lib.hid (by rw [HE2.out]; exact allOk_f _ _ q hlt (by rw [HK.out]; simp; omega))
                go_wp2
                go_ret
                exact Val.mk' (v_bool HF.out.symm) (by (repeat (first | exact In.refl _ | assumption | apply In.alloc | apply In.drewN | apply In.drew | (refine In.step ?_ (by assumption)))))
              · have HT : Hid (rowOk xs ts room q = true) := Lib.hid (by rw [HK.out]; simp; omega)
                have hle2 : s ≤ room := by omega
                go_wp2
                go_round
                case rel => exact ⟨q + 1, by omega, by go_num, fun i hi => by
                    by_cases e : i = q
                    · subst e; exact HT.out
                    · exact HO.out i (by omega)⟩
                case measure => simp [intOf]; omega
        · obtain rfl : q = t := by omega
          have HF : Hid (tripsV n xs q ts room = true) := Lib.hid (by rw [HE2.out]; exact allOk_t _ _ HO.out)
          go_wp2
          go_ret
          exact Val.mk' (v_bool HF.out.symm) (by (repeat (first | exact In.refl _ | assumption | apply In.alloc | apply In.drewN | apply In.drew | (refine In.step ?_ (by assumption)))))
end Go.Proofs.Ytkibabajalajeaa
