/- Chapter 36: copies of stocks, StoreOk. -/
import Derived.Test.YtmkfnhgaiheckaaWStock
import Derived.Test.YtmkfnhgaiheckaaAll
import Derived.Test.YtmkfnhgaiheckaaA02
import Derived.Test.YtmkfnhgaiheckaaIn
import Derived.IntWalk
import Derived.Lib.SliceRun
namespace Go.Proofs.Ytmkfnhgaiheckaa
open Go.ChangeShapes Go.WideShapes Go.ChangeAt Go.RowKit
set_option linter.unusedVariables false
set_option linter.unusedSimpArgs false
set_option maxHeartbeats 2000000

theorem ownC_of {w : World} {B n : Nat} {v : Value} {xs : List Int} (h : w.ownsRow B 3 1 v n (iv xs)) (hv : v ≠ .slice none 0 0) : ∃ g c, v = .slice (some ⟨g, 0, none⟩) n c ∧ B ≤ g ∧ OwnC w g n c xs := by
  have h1 := h.1
  rcases h.2 with ⟨rfl, _⟩ | ⟨g, cap, cur, rfl, hg, rest⟩
  · exact absurd rfl hv
  · exact ⟨g, cap, rfl, hg, h1, .inr ⟨g, cap, cur, rfl, Nat.le_refl _, rest⟩⟩
def RowC (xs : List Int) (w : World) (e : Ending) (w' : World) : Prop := ∃ g c, e = .returned (.slice (some ⟨g, 0, none⟩) xs.length c) ∧ OwnC w' g xs.length c xs ∧ w.heap.size ≤ g ∧ Below w.heap.size w w'
theorem news_i {w : World} {ad : Addr} {n : Nat} {xs : List Int} (hx : ReadsI w (some ad) n xs) : ∀ j u, (iv xs)[j]? = some u → w.cell? (ad.add j) = some u := by
  intro j u hu
  have hj : j < n := by
    have := (List.getElem?_eq_some_iff.1 hu).1
    rw [iv_len, hx.1] at this
    exact this
  obtain ⟨a, ha, hc⟩ := hx.2 j hj
  injection ha with ha
  subst ha
  rw [iv_at xs j (by rw [hx.1]; exact hj)] at hu
  rw [hc]; exact hu
theorem iv_one (xs : List Int) : ∀ u ∈ iv xs, u.oneCell' = true := by
  intro u hu
  simp only [iv, List.mem_map] at hu
  obtain ⟨x, _, rfl⟩ := hu
  rfl
theorem iClone (ad : Addr) (n c : Nat) (xs : List Int) (w : World) (hn : n ≤ 10000000) (hx : ReadsI w (some ad) n xs) :
    Calls Try.prog 194 #[.slice (some ad) n c] w (RowC xs w) := by
  obtain ⟨i0, hi0, hz0, hz1, hz2⟩ := info_parts infoI
  have hlen := hx.1
  have hown0 := own_lit w 3 #[] 0 w.heap.size rfl (Nat.le_refl _) (by unfold maxLen; omega)
  have hnews := news_i (hx.alloc (.cells #[] 3))
  have HL := Lib.hid (show (iv xs).length = n * 1 by rw [iv_len, hlen]; omega)
  have H1 := Lib.hid (iv_one xs)
  have hnil := fun (w : World) => Lib.run_eql_slice_nil (P := Try.prog) w 43 3 (some ad) n c 0 0 Try.underlying43
  go_enter Try.func194, Try.ntmps194
  go_wp2_with (at_builtin; refine wpList_append_own _ rfl (.tmp 5) (.tmp 6) 43 rfl w.heap.size 3 i0 (.int .i64 0) 1 8 Try.underlying43 hi0 hz0 hz1 hz2 rfl Nat.one_pos _ 0 [] rfl hown0 ad n c (iv xs) rfl HL.out hnews H1.out ?h2 ?h3 (by simp) ?_)
  case h2 => unfold maxLen; omega
  case h3 => omega
  intro v1 w1 hown1 hgr1 hiff
  obtain ⟨g, c1, rfl, hg, ho⟩ := ownC_of hown1 hiff
  have hb0 : Below w.heap.size w w1 := ((Below.refl _ w).alloc (Nat.le_refl _) _).grown hgr1 (by simp) (fun j hj => by simp [Value.ownBlock] at hj; omega)
  have HR : Hid (RowC xs w (.returned (.slice (some ⟨g, 0, none⟩) n c1)) w1) := Lib.hid (by subst hlen; exact ⟨g, c1, rfl, ho, hg, hb0⟩)
  clear hown1 hgr1 hiff ho hg hb0 hown0 hnews
  go_wp2
  go_ret
  exact HR.out
theorem icopied (ad : Addr) (n c : Nat) (xs : List Int) (w : World) (hn : n ≤ 10000000) (hx : ReadsI w (some ad) n xs) : Calls Try.prog 190 #[.agg #[.slice (some ad) n c]] w (RowSt xs w) := by
  obtain ⟨i0, hi0, hz0, hz1, hz2⟩ := info_parts infoI
  have hlen := hx.1
  obtain ⟨r, hr⟩ : ∃ r, r = w.heap.size + 1 := ⟨_, rfl⟩
  have kR : Blk ((w.alloc (.cells #[.slice (some ad) n c] 90)).alloc (.cells #[.slice none 0 0] 90)) r 90 #[.slice none 0 0] := Blk.new' (by simp [hr])
  have hx0 := (hx.alloc (.cells #[.slice (some ad) n c] 90)).alloc (.cells #[.slice none 0 0] 90)
  have in0 : In w.heap.size w ((w.alloc (.cells #[.slice (some ad) n c] 90)).alloc (.cells #[.slice none 0 0] 90)) := by (repeat (first | exact In.refl _ | assumption | apply In.alloc | apply In.drewN | apply In.drew | (refine In.step ?_ (by assumption))))
  have HC := Lib.hid (iClone ad n c xs _ hn hx0)
  go_enter Try.func190, Try.ntmps190
  go_wp2_with fail
  refine HC.out.mono ?_
  rintro _ w1 ⟨g, c1, rfl, ho, hg, hb0⟩
  rw [hlen] at ho
  rw [hlen]
  clear HC
  have hgr : g ≠ r := by have h := hg; (try simp at h); omega
  have hgw : w.heap.size ≤ g := by have h := hg; (try simp at h); omega
  have hrw : w.heap.size ≤ r := by omega
  have k1 := kR.step hb0
  have cr := k1.cell 0
  have zr := k1.frozen 0
  have i1 := in0.step hb0
  have HO : Hid (OwnC (w1.setCell ⟨r, 0, none⟩ (.slice (some ⟨g, 0, none⟩) n c1)) g n c1 xs) := Lib.hid (ho.only (only_set _ _) hgr)
  have i2 : In w.heap.size w (w1.setCell ⟨r, 0, none⟩ (.slice (some ⟨g, 0, none⟩) n c1)) := i1.set_ (p := ⟨r, 0, none⟩) hrw _
  have HK : Hid ((w1.setCell ⟨r, 0, none⟩ (.slice (some ⟨g, 0, none⟩) n c1)).cell? ⟨r, 0, none⟩ = some (.slice (some ⟨g, 0, none⟩) n c1)) := Lib.hid (by
    have h := (k1.set_ 0 (.slice (some ⟨g, 0, none⟩) n c1)).cell 0
    simpa using h)
  rw [← hr]
  clear kR hx0 in0 ho hg hb0 k1 i1 hr
  go_wp2
  have hk := HK.out
  exact bodyPost_ret (v := .agg #[.slice (some ⟨g, 0, none⟩) n c1]) (by simp [results, Try.results190, go_sem, hk]) rfl (by subst hlen; exact ⟨g, c1, rfl, HO.out, hgw, i2.below⟩)
def stB (n : Nat) (xs : List Int) : Bool := decide (n = 4) && allIn xs 0 1000000 n
theorem st_at {n : Nat} {xs : List Int} (h : stB n xs = true) : n = 4 ∧ ∀ i, i < n → 0 ≤ xs.getD i 0 ∧ xs.getD i 0 ≤ 1000000 := by
  simp only [stB, Bool.and_eq_true, decide_eq_true_eq] at h
  exact ⟨h.1, allIn_at h.2⟩
theorem iStoreOk (A : Option Addr) (n c : Nat) (xs : List Int) (w : World) (hn : n ≤ maxLen) (hx : ReadsI w A n xs) : Calls Try.prog 149 #[.agg #[.slice A n c]] w (Val (.bool (stB n xs)) w) := by
  have HA := Lib.hid (fun W (h : In w.heap.size w W) => iAll A n c xs 0 1000000 W hn (hx.below h.below (Nat.le_refl _)))
  unfold maxLen at hn
  by_cases h4 : n = 4
  · subst h4
    have HV : Hid (stB 4 xs = allIn xs 0 1000000 4) := Lib.hid (by simp [stB])
    rw [HV.out]
    clear HV
    go_enter Try.func149, Try.ntmps149
    go_wp2_with (go_at_call 120; refine (HA.out _ (by (repeat (first | exact In.refl _ | assumption | apply In.alloc | apply In.drewN | apply In.drew | (refine In.step ?_ (by assumption)))))).mono ?_; rintro e w' ⟨rfl, rfl⟩)
    go_ret
    exact Val.mk' rfl (by (repeat (first | exact In.refl _ | assumption | apply In.alloc | apply In.drewN | apply In.drew | (refine In.step ?_ (by assumption)))))
  · have HV : Hid (stB n xs = false) := Lib.hid (by simp [stB, h4])
    have h4' : ((n : Int) == 4) = false := by simp; omega
    go_enter Try.func149, Try.ntmps149
    go_wp2_with (go_at_call 120; refine (HA.out _ (by (repeat (first | exact In.refl _ | assumption | apply In.alloc | apply In.drewN | apply In.drew | (refine In.step ?_ (by assumption)))))).mono ?_; rintro e w' ⟨rfl, rfl⟩)
    go_ret
    exact Val.mk' (v_bool HV.out.symm) (by (repeat (first | exact In.refl _ | assumption | apply In.alloc | apply In.drewN | apply In.drew | (refine In.step ?_ (by assumption)))))
theorem sStoreOk (A : Option Addr) (n c : Nat) (xs : List Int) (w : World) (hn : n ≤ maxLen) (hx : ReadsI w A n xs) : Calls Try.prog 146 #[.agg #[.slice A n c]] w (Val (.bool (stB n xs)) w) := by
  unfold maxLen at hn
  have k0 : Blk (w.alloc (.cells #[.slice A n c] 90)) w.heap.size 90 #[.slice A n c] := Blk.new w _ _
  have hc0 := k0.cell 0
  have hx1 := hx.alloc (.cells #[.slice A n c] 90)
  have in0 : In w.heap.size w (w.alloc (.cells #[.slice A n c] 90)) := by (repeat (first | exact In.refl _ | assumption | apply In.alloc | apply In.drewN | apply In.drew | (refine In.step ?_ (by assumption))))
  go_enter Try.func146, Try.ntmps146
  go_wp2
  generalize (w.alloc (.cells #[.slice A n c] 90)) = w0 at *
  go_loop [3] (fun i => ∃ k : Nat, k ≤ n ∧ i = .int .i64 k ∧ (∀ i, i < k → inAt xs 0 1000000 i = true)) (fun i => n - (intOf i).toNat)
  case atStart => exact ⟨0, Nat.zero_le _, rfl, fun i hi => absurd hi (Nat.not_lt_zero _)⟩
  case round =>
    obtain ⟨k, hk, rfl, ho⟩ := hrel
    have HO := Lib.hid ho
    clear ho
    by_cases hlt : k < n
    · obtain ⟨a, rfl, ha⟩ := hx1.2 k hlt
      have HK : Hid (inAt xs 0 1000000 k = inB (xs.getD k 0) 0 1000000) := Lib.hid rfl
      generalize xs.getD k 0 = x at ha HK
      cases h1 : inB x 0 1000000
      · have HF : Hid (stB n xs = false) := Lib.hid (by simp [stB, allIn_f k hlt (by rw [HK.out]; exact h1)])
        go_wp2_with (first | (go_at_call 95; refine (sIn _ _ _ _).mono ?_; rintro e w' ⟨rfl, rfl⟩) | (go_at_call 105; refine (iIn _ _ _ _).mono ?_; rintro e w' ⟨rfl, rfl⟩) | go_in | (go_end0; simp only []; go_at_K))
        go_ret
        exact Val.mk' (v_bool HF.out.symm) (by (repeat (first | exact In.refl _ | assumption | apply In.alloc | apply In.drewN | apply In.drew | (refine In.step ?_ (by assumption)))))
      · have HT : Hid (inAt xs 0 1000000 k = true) := Lib.hid (by rw [HK.out]; exact h1)
        go_wp2_with (first | (go_at_call 95; refine (sIn _ _ _ _).mono ?_; rintro e w' ⟨rfl, rfl⟩) | (go_at_call 105; refine (iIn _ _ _ _).mono ?_; rintro e w' ⟨rfl, rfl⟩) | go_in | (go_end0; simp only []; go_at_K))
        go_round
        case rel => exact ⟨k + 1, by omega, by go_num, fun i hi => by
            by_cases e : i = k
            · subst e; exact HT.out
            · exact HO.out i (by omega)⟩
        case measure => simp [intOf]; omega
    · obtain rfl : k = n := by omega
      have HT : Hid (stB k xs = decide (k = 4)) := Lib.hid (by simp [stB, allIn_t HO.out])
      by_cases h4 : k = 4
      · subst h4
        go_wp2
        go_ret
        exact Val.mk' (v_bool (by rw [HT.out]; rfl)) (by (repeat (first | exact In.refl _ | assumption | apply In.alloc | apply In.drewN | apply In.drew | (refine In.step ?_ (by assumption)))))
      · have h4' : ((k : Int) == 4) = false := by simp; omega
        go_wp2
        go_ret
        exact Val.mk' (v_bool (by rw [HT.out]; simp [h4])) (by (repeat (first | exact In.refl _ | assumption | apply In.alloc | apply In.drewN | apply In.drew | (refine In.step ?_ (by assumption)))))
end Go.Proofs.Ytmkfnhgaiheckaa
