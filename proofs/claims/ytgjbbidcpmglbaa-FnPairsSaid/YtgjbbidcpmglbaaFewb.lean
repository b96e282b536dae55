/- Chapter 10: FewestHeats. -/
import Derived.Test.YtgjbbidcpmglbaaAptIb
import Derived.Test.YtgjbbidcpmglbaaApp
import Derived.IntWalk
namespace Go.Proofs.Ytgjbbidcpmglbaa
open Go.ChangeShapes Go.WideShapes Go.ChangeAt Go.RowKit
set_option linter.unusedVariables false
set_option linter.unusedSimpArgs false
set_option maxHeartbeats 2000000

def FewestHeatsL (n : Nat) (xs : List BreadR) : List Int := (ApartBreadsL n xs).map fun i => hiI xs i.toNat
theorem FewestHeatsL_len (n : Nat) (xs : List BreadR) : (FewestHeatsL n xs).length ≤ 400 := by
  unfold FewestHeatsL
  rw [List.length_map]
  exact ApartBreadsL_len n xs
theorem apF_in (xs : List BreadR) (n : Nat) : ∀ f h, ∀ i ∈ apF xs n f h, 0 ≤ i ∧ i < n := by
  intro f
  induction f with
  | zero => intro h i hi; cases hi
  | succ f ih =>
    intro h i hi
    rw [apF] at hi
    split at hi
    · cases hi
    · rename_i hn
      rcases List.mem_cons.1 hi with rfl | hi
      · obtain ⟨v, hv, _, e, _⟩ := nx_at hn
        have := apN_in (xs := xs) hv
        rw [e]; omega
      · exact ih _ i hi
theorem ap_in (n : Nat) (xs : List BreadR) (k : Nat) (h : k < (ApartBreadsL n xs).length) : 0 ≤ (ApartBreadsL n xs).getD k 0 ∧ (ApartBreadsL n xs).getD k 0 < n := by
  have hm : (ApartBreadsL n xs).getD k 0 ∈ ApartBreadsL n xs := by
    rw [List.getD_eq_getElem?_getD, List.getElem?_eq_getElem h]
    exact List.getElem_mem h
  generalize (ApartBreadsL n xs).getD k 0 = y at *
  unfold ApartBreadsL at hm
  split at hm
  · exact apF_in xs n _ _ y hm
  · cases hm
theorem cell_same {w w' : World} {p : Addr} (h : w'.heap[p.block]? = w.heap[p.block]?) : w'.cell? p = w.cell? p := by unfold World.cell?; rw [h]
theorem reads_only {w w' : World} {g g' n : Nat} {xs : List Int} (h : ReadsI w (some ⟨g, 0, none⟩) n xs) (hb : w.grownBy w' (some g')) (hne : g ≠ g') : ReadsI w' (some ⟨g, 0, none⟩) n xs := by
  refine ⟨h.1, fun k hk => ?_⟩
  obtain ⟨ad, ha, hc⟩ := h.2 k hk
  refine ⟨ad, ha, ?_⟩
  injection ha with ha
  subst ha
  rw [cell_same, hc]
  rw [block_of_add]
  exact hb.block g (h.lt _ rfl (by omega)) (fun e => hne (Option.some.inj e))
theorem take_map (f : Int → Int) (L : List Int) (k : Nat) (h : k < L.length) : ((L.take k).map f) ++ [f (L.getD k 0)] = (L.take (k + 1)).map f := by
  rw [List.take_add_one, List.getElem?_eq_getElem h, List.map_append]
  simp [List.getD_eq_getElem?_getD, List.getElem?_eq_getElem h]
set_option maxHeartbeats 4000000 in
theorem iFewestHeats (A : Option Addr) (n c : Nat) (xs : List BreadR) (w : World) (hn : n ≤ maxLen) (hx : ReadsBread w A n xs) : Calls Try.prog 27 #[.slice A n c] w (RowB (FewestHeatsL n xs) w) := by
  obtain ⟨i0, hi0, hz0, hz1, hz2⟩ := info_parts infoI
  have HX := Lib.hid hx
  have HC := Lib.hid (iApartBreads A n c xs w hn hx)
  have HN := Lib.hid (ap_in n xs)
  have hle := ApartBreadsL_len n xs
  have HV : Hid (FewestHeatsL n xs = (ApartBreadsL n xs).map fun i => hiI xs i.toNat) := Lib.hid rfl
  clear hx
  go_enter Try.func27, Try.ntmps27
  go_wp2_with fail
  refine HC.out.mono ?_
  rintro _ w1 ⟨A2, c2, rfl, ho, hb1⟩
  have hr1 := reads_own_i ho
  generalize ApartBreadsL n xs = L at *
  obtain ⟨N, hN⟩ : ∃ N, L.length = N := ⟨_, rfl⟩
  rw [hN] at ho hr1 hle ⊢
  have HNN : Hid (∀ k, k < N → 0 ≤ L.getD k 0 ∧ L.getD k 0 < n) := Lib.hid (fun k hk => HN.out k (by omega))
  have HNL := Lib.hid hN
  have i1 : In w.heap.size w w1 := ⟨hb1, hb1.size⟩
  obtain ⟨B1, hB1⟩ : ∃ B1, B1 = w1.heap.size := ⟨_, rfl⟩
  have hwB : w.heap.size ≤ B1 := by have := hb1.size; omega
  have hBw : B1 ≤ w1.heap.size := by omega
  have HR1 : Hid (∀ W, In B1 w1 W → ReadsI W A2 N L) := Lib.hid (fun W h => hr1.below h.below (by omega))
  have hown := own_nil w1 B1
  have j1 : In B1 w1 w1 := ⟨Below.refl _ _, hBw⟩
  clear ho hb1 hr1 hN HN HC hB1
  go_wp2
  go_loopw [3, 9] (fun v i wr => ∃ k : Nat, k ≤ N ∧ i = .int .i64 k ∧ wr.ownsRow B1 3 1 v k (iv ((L.take k).map fun i => hiI xs i.toNat)) ∧ In B1 w1 wr) (fun _ i _ => N - (intOf i).toNat)
  case atStart => exact ⟨0, Nat.zero_le _, rfl, hown, j1⟩
  case round =>
    clear hown j1
    obtain ⟨k, hk, rfl, hown, hi⟩ := hrel
    obtain ⟨A1, c1, rfl⟩ := own_shape_i hown
    have i2 : In w.heap.size w wr := ⟨i1.below.trans (hi.below.mono hwB), by have := hi.size; omega⟩
    by_cases hlt : k < N
    · obtain ⟨a2, rfl, ha2⟩ := (HR1.out wr hi).2 k hlt
      have hin := HNN.out k hlt
      have HT := Lib.hid (take_map (fun i => hiI xs i.toNat) L k (by have := HNL.out; omega))
      obtain ⟨q, hq⟩ : ∃ q : Nat, L.getD k 0 = q := ⟨(L.getD k 0).toNat, by omega⟩
      rw [hq] at ha2 hin HT
      have hqn : q < n := by omega
      obtain ⟨a, rfl, r0, r1, r2⟩ := (HX.out.in_ i2).2 q hqn
      have HE : Hid ((xs.getD q z10).f1 = hiI xs q) := Lib.hid rfl
      obtain ⟨y, hy⟩ : ∃ y, (xs.getD q z10).f1 = y := ⟨_, rfl⟩
      rw [hy] at r1 HE
      generalize hM : (L.take k).map (fun i => hiI xs i.toNat) = M at hown HT
      clear hq r0 r2 hy hM
      have F9 : Hid (∀ u ∈ (#[Value.int .i64 (y)] : Array Value).toList, u.oneCell' = true) := Lib.hid (by intro u hu; simp at hu; subst hu; rfl)
      have f92 : k + 1 ≤ maxLen := by unfold maxLen; omega
      have f93 : (k + 1) * 8 ≤ 140737488355328 := by omega
      have hB9 : B1 ≤ wr.heap.size := hi.size
      go_wp2_with (first | (go_at_call 66; refine (iIn _ _ _ _).mono ?_; rintro e w' ⟨rfl, rfl⟩) | (at_builtin; refine wpList_app wr rfl (.tmp 13) (.tmp 19) 27 rfl B1 3 i0 (.int .i64 0) 1 8 Try.underlying27 hi0 hz0 hz1 hz2 rfl Nat.one_pos (.slice A1 k c1) (k) (iv (M)) rfl hown 1 #[.int .i64 (y)] rfl rfl F9.out f92 f93 hB9 ?_; intro v9 w9 hown9 hbw9))
      have i9 : In B1 w1 w9 := In.wide hi hbw9
      have HO : Hid (w9.ownsRow B1 3 1 v9 (k + 1) (iv ((L.take (k + 1)).map fun i => hiI xs i.toNat))) := Lib.hid (by
        rw [← HT.out]
        simp only [Int.toNat_natCast]
        rw [← HE.out, iv_app]
        exact hown9)
      clear hown9 hown hbw9 hi hB9
      go_wp2
      go_roundw
      case rel => exact ⟨k + 1, by omega, by go_num, HO.out, i9⟩
      case measure => simp [intOf]; omega
    · obtain rfl : k = N := by omega
      have HR : Hid (RowB (FewestHeatsL n xs) w (.returned (.slice A1 k c1)) wr) := Lib.hid (by
        rw [HV.out]
        rw [List.take_of_length_le (by have := HNL.out; omega)] at hown
        exact rowB_of (by rw [List.length_map]; exact HNL.out) (own_base hown hwB) i2.below)
      clear hown hi
      go_wp2
      go_ret
      exact HR.out
end Go.Proofs.Ytgjbbidcpmglbaa
