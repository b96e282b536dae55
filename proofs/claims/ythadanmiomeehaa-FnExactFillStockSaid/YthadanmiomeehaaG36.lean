/- Chapter 36: FillStock. -/
import Derived.Test.YthadanmiomeehaaF36
import Derived.IntWalk
namespace Go.Proofs.Ythadanmiomeehaa
open Go.ChangeShapes Go.WideShapes Go.ChangeAt Go.RowKit
set_option linter.unusedVariables false
set_option linter.unusedSimpArgs false
set_option maxHeartbeats 2000000

def fsB (n : Nat) (xs : List Int) (k g : Int) : Bool := stB n xs && inB k 0 3 && inB g 0 1000000 && decide (xs.getD k.toNat 0 + g ≤ 1000000)
def FillStockL (n : Nat) (xs : List Int) (k g : Int) : List Int := if fsB n xs k g then xs.set k.toNat (xs.getD k.toNat 0 + g) else xs
theorem FillStockL_len (n : Nat) (xs : List Int) (k g : Int) : (FillStockL n xs k g).length = xs.length := by
  unfold FillStockL
  split
  · simp
  · rfl
theorem st_set {xs : List Int} {k : Nat} {v : Int} (hl : xs.length = 4) (h : stB 4 xs = true) (hk : k < 4) (hv : 0 ≤ v) : stB 4 (xs.set k v) = decide (v ≤ 1000000) := by
  have hx := (st_at h).2
  by_cases h1 : v ≤ 1000000
  · rw [decide_eq_true h1]
    rw [stB, Bool.and_eq_true]
    refine ⟨by decide, allIn_t fun i hi => inB_t ?_⟩
    by_cases e : k = i
    · subst e
      have : (xs.set k v).getD k 0 = v := by simp [List.getD_eq_getElem?_getD, hl, hk]
      rw [this]; omega
    · have : (xs.set k v).getD i 0 = xs.getD i 0 := by simp [List.getD_eq_getElem?_getD, List.getElem?_set_ne e]
      rw [this]; exact hx i hi
  · rw [decide_eq_false h1]
    have : (xs.set k v).getD k 0 = v := by simp [List.getD_eq_getElem?_getD, hl, hk]
    simp only [stB]
    rw [allIn_f k hk (inB_f (by rw [this]; omega))]
    simp
theorem fs_t {xs : List Int} {t : Nat} {g : Int} (h1 : stB 4 xs = true) (h2 : inB (t : Int) 0 3 = true) (h3 : inB g 0 1000000 = true) (h4 : xs.getD t 0 + g ≤ 1000000) : fsB 4 xs t g = true := by
  simp only [fsB, h1, h2, h3, Int.toNat_natCast, Bool.true_and, decide_eq_true_eq]; exact h4
theorem fs_f {xs : List Int} {t : Nat} {g : Int} (h4 : ¬ xs.getD t 0 + g ≤ 1000000) : fsB 4 xs t g = false := by
  simp only [fsB, Int.toNat_natCast, decide_eq_false h4, Bool.and_false]
theorem sFillStock (ad : Addr) (n cap : Nat) (xs : List Int) (k g : Int) (w : World) (hn : n ≤ 10000000) (hx : ReadsI w (some ad) n xs) : Calls Try.prog 23 #[.agg #[.slice (some ad) n cap], .int .i64 k, .int .i64 g] w (RowStV (FillStockL n xs k g) (.bool (fsB n xs k g)) w) := by
  have HX := Lib.hid hx
  have hlen := hx.1
  clear hx
  obtain ⟨b_A, hbx_A⟩ : ∃ b, b = w.heap.size := ⟨_, rfl⟩
  have kk_A : Blk ((w.alloc (.cells #[.slice (some ad) n cap] 27)).alloc (.cells #[.slice none 0 0] 27)) b_A 27 #[.slice (some ad) n cap] := ((Blk.new' (w := w) (t := 27) (cs := #[.slice (some ad) n cap]) (g := b_A) (by simp [hbx_A])).alloc (.cells #[.slice none 0 0] 27))
  have hwb_A : w.heap.size ≤ b_A := by omega
  obtain ⟨b_R, hbx_R⟩ : ∃ b, b = w.heap.size + 1 := ⟨_, rfl⟩
  have kk_R : Blk ((w.alloc (.cells #[.slice (some ad) n cap] 27)).alloc (.cells #[.slice none 0 0] 27)) b_R 27 #[.slice none 0 0] := (Blk.new' (w := (w.alloc (.cells #[.slice (some ad) n cap] 27))) (t := 27) (cs := #[.slice none 0 0]) (g := b_R) (by simp [hbx_R]))
  have hwb_R : w.heap.size ≤ b_R := by omega
  have NB_A_R : Hid (b_A ≠ b_R) := Lib.hid (by omega)
  have hb_0 : Below w.heap.size w ((w.alloc (.cells #[.slice (some ad) n cap] 27)).alloc (.cells #[.slice none 0 0] 27)) := by
    have h : In w.heap.size w ((w.alloc (.cells #[.slice (some ad) n cap] 27)).alloc (.cells #[.slice none 0 0] 27)) := by (repeat (first | exact In.refl _ | assumption | apply In.alloc | apply In.drewN | apply In.drew | (refine In.step ?_ (by assumption))))
    exact h.below
  go_enter Try.func23, Try.ntmps23
  go_wp2_with fail
  rw [← hbx_R]
  clear hbx_R
  rw [← hbx_A]
  clear hbx_A
  generalize ((w.alloc (.cells #[.slice (some ad) n cap] 27)).alloc (.cells #[.slice none 0 0] 27)) = w_0 at *
  have i_0 : In w.heap.size w w_0 := In.step (by (repeat (first | exact In.refl _ | assumption | apply In.alloc | apply In.drewN | apply In.drew | (refine In.step ?_ (by assumption))))) hb_0
  have k_0_A : Blk w_0 b_A 27 #[.slice (some ad) n cap] := kk_A
  have c_0_A_0 : w_0.cell? ⟨b_A, 0, none⟩ = some (.slice (some ad) n cap) := k_0_A.cell 0
  have l_0_A := k_0_A.lt
  have k_0_R : Blk w_0 b_R 27 #[.slice none 0 0] := kk_R
  have c_0_R_0 : w_0.cell? ⟨b_R, 0, none⟩ = some (.slice none 0 0) := k_0_R.cell 0
  have l_0_R := k_0_R.lt
  have z_0_R_0 := k_0_R.frozen 0
  clear kk_A kk_R
  go_wp2_with fail
  refine (s36Copy ad n cap xs _ (by omega) (HX.out.below (In.below (by (repeat (first | exact In.refl _ | assumption | apply In.alloc | apply In.drewN | apply In.drew | (refine In.step ?_ (by assumption)))))) (Nat.le_refl _))).mono ?_
  rintro _ w_1 ⟨g_1, c_1, rfl, ho_1, hg_1, hb_1⟩
  rw [hlen] at ho_1
  rw [hlen]
  have GX_C : Hid (w.heap.size ≤ g_1) := Lib.hid (by have h1 := hg_1; (try simp at h1); have h2 := In.size i_0; omega)
  have o_1_C : OwnC w_1 g_1 (n) c_1 xs := ho_1
  clear ho_1 hg_1
  have i_1 : In w.heap.size w w_1 := In.step (by (repeat (first | exact In.refl _ | assumption | apply In.alloc | apply In.drewN | apply In.drew | (refine In.step ?_ (by assumption))))) hb_1
  have k_1_A : Blk w_1 b_A 27 #[.slice (some ad) n cap] := Blk.step (by (with_reducible (repeat (first | assumption | exact Blk.new' (by simp) | apply Blk.drewN | apply Blk.drew | apply Blk.alloc | (refine Blk.far ?_ (by (try simp) <;> omega) _))))) hb_1
  have c_1_A_0 : w_1.cell? ⟨b_A, 0, none⟩ = some (.slice (some ad) n cap) := k_1_A.cell 0
  have l_1_A := k_1_A.lt
  have k_1_R : Blk w_1 b_R 27 #[.slice none 0 0] := Blk.step (by (with_reducible (repeat (first | assumption | exact Blk.new' (by simp) | apply Blk.drewN | apply Blk.drew | apply Blk.alloc | (refine Blk.far ?_ (by (try simp) <;> omega) _))))) hb_1
  have c_1_R_0 : w_1.cell? ⟨b_R, 0, none⟩ = some (.slice none 0 0) := k_1_R.cell 0
  have l_1_R := k_1_R.lt
  have z_1_R_0 := k_1_R.frozen 0
  clear i_0 k_0_A c_0_A_0 l_0_A k_0_R c_0_R_0 l_0_R z_0_R_0 hb_0
  go_wp2_with fail
  obtain ⟨b_O, hbx_O⟩ : ∃ b, b = w_1.heap.size := ⟨_, rfl⟩
  rw [← hbx_O]
  have hwb_O : w.heap.size ≤ b_O := by have h := In.size i_1; omega
  have NB_A_O : Hid (b_A ≠ b_O) := Lib.hid (by have h := k_1_A.lt; omega)
  have NB_R_O : Hid (b_R ≠ b_O) := Lib.hid (by have h := k_1_R.lt; omega)
  have hb_2 : Below w_1.heap.size w_1 (w_1.alloc (.cells #[.slice (some ⟨g_1, 0, none⟩) n c_1] 27)) := (Below.refl _ _).alloc (Nat.le_refl _) _
  have kk_2 : Blk (w_1.alloc (.cells #[.slice (some ⟨g_1, 0, none⟩) n c_1] 27)) b_O 27 #[.slice (some ⟨g_1, 0, none⟩) n c_1] := Blk.new' hbx_O
  clear hbx_O
  generalize (w_1.alloc (.cells #[.slice (some ⟨g_1, 0, none⟩) n c_1] 27)) = w_2 at *
  have i_2 : In w.heap.size w w_2 := In.step (by (repeat (first | exact In.refl _ | assumption | apply In.alloc | apply In.drewN | apply In.drew | (refine In.step ?_ (by assumption))))) hb_2
  have k_2_A : Blk w_2 b_A 27 #[.slice (some ad) n cap] := Blk.step (by (with_reducible (repeat (first | assumption | exact Blk.new' (by simp) | apply Blk.drewN | apply Blk.drew | apply Blk.alloc | (refine Blk.far ?_ (by (try simp) <;> omega) _))))) hb_2
  have c_2_A_0 : w_2.cell? ⟨b_A, 0, none⟩ = some (.slice (some ad) n cap) := k_2_A.cell 0
  have l_2_A := k_2_A.lt
  have k_2_R : Blk w_2 b_R 27 #[.slice none 0 0] := Blk.step (by (with_reducible (repeat (first | assumption | exact Blk.new' (by simp) | apply Blk.drewN | apply Blk.drew | apply Blk.alloc | (refine Blk.far ?_ (by (try simp) <;> omega) _))))) hb_2
  have c_2_R_0 : w_2.cell? ⟨b_R, 0, none⟩ = some (.slice none 0 0) := k_2_R.cell 0
  have l_2_R := k_2_R.lt
  have z_2_R_0 := k_2_R.frozen 0
  have k_2_O : Blk w_2 b_O 27 #[.slice (some ⟨g_1, 0, none⟩) n c_1] := kk_2
  have c_2_O_0 : w_2.cell? ⟨b_O, 0, none⟩ = some (.slice (some ⟨g_1, 0, none⟩) n c_1) := k_2_O.cell 0
  have l_2_O := k_2_O.lt
  have o_2_C : OwnC w_2 g_1 (n) c_1 xs := OwnC.step (by (with_reducible (repeat (first | assumption | apply OwnC.drewN | apply OwnC.drew | apply OwnC.alloc)))) hb_2
  clear i_1 k_1_A c_1_A_0 l_1_A k_1_R c_1_R_0 l_1_R z_1_R_0 o_1_C hb_1
  clear kk_2
  go_wp2_with fail
  refine (sStoreOk (some ad) n cap xs _ (by unfold maxLen; omega) (HX.out.below (In.below (by (repeat (first | exact In.refl _ | assumption | apply In.alloc | apply In.drewN | apply In.drew | (refine In.step ?_ (by assumption)))))) (Nat.le_refl _))).mono ?_
  rintro _ w_3 ⟨rfl, hb_3⟩
  have i_3 : In w.heap.size w w_3 := In.step (by (repeat (first | exact In.refl _ | assumption | apply In.alloc | apply In.drewN | apply In.drew | (refine In.step ?_ (by assumption))))) hb_3
  have k_3_A : Blk w_3 b_A 27 #[.slice (some ad) n cap] := Blk.step (by (with_reducible (repeat (first | assumption | exact Blk.new' (by simp) | apply Blk.drewN | apply Blk.drew | apply Blk.alloc | (refine Blk.far ?_ (by (try simp) <;> omega) _))))) hb_3
  have c_3_A_0 : w_3.cell? ⟨b_A, 0, none⟩ = some (.slice (some ad) n cap) := k_3_A.cell 0
  have l_3_A := k_3_A.lt
  have k_3_R : Blk w_3 b_R 27 #[.slice none 0 0] := Blk.step (by (with_reducible (repeat (first | assumption | exact Blk.new' (by simp) | apply Blk.drewN | apply Blk.drew | apply Blk.alloc | (refine Blk.far ?_ (by (try simp) <;> omega) _))))) hb_3
  have c_3_R_0 : w_3.cell? ⟨b_R, 0, none⟩ = some (.slice none 0 0) := k_3_R.cell 0
  have l_3_R := k_3_R.lt
  have z_3_R_0 := k_3_R.frozen 0
  have k_3_O : Blk w_3 b_O 27 #[.slice (some ⟨g_1, 0, none⟩) n c_1] := Blk.step (by (with_reducible (repeat (first | assumption | exact Blk.new' (by simp) | apply Blk.drewN | apply Blk.drew | apply Blk.alloc | (refine Blk.far ?_ (by (try simp) <;> omega) _))))) hb_3
  have c_3_O_0 : w_3.cell? ⟨b_O, 0, none⟩ = some (.slice (some ⟨g_1, 0, none⟩) n c_1) := k_3_O.cell 0
  have l_3_O := k_3_O.lt
  have o_3_C : OwnC w_3 g_1 (n) c_1 xs := OwnC.step (by (with_reducible (repeat (first | assumption | apply OwnC.drewN | apply OwnC.drew | apply OwnC.alloc)))) hb_3
  clear i_2 k_2_A c_2_A_0 l_2_A k_2_R c_2_R_0 l_2_R z_2_R_0 k_2_O c_2_O_0 l_2_O o_2_C hb_2
  cases h1 : stB n xs
  · have HV : Hid (fsB n xs k g = false) := Lib.hid (by simp [fsB, h1])
    have HL : Hid (FillStockL n xs k g = xs) := Lib.hid (by simp [FillStockL, HV.out])
    have HO : Hid (OwnC (w_3.setCell ⟨b_R, 0, none⟩ (.slice (some ⟨g_1, 0, none⟩) (n) c_1)) g_1 (n) c_1 xs) := Lib.hid (OwnC.far (by (with_reducible (repeat (first | assumption | apply OwnC.drewN | apply OwnC.drew | apply OwnC.alloc)))) (show Blk w_3 b_R 27 #[.slice none 0 0] from k_3_R) (by decide) (only_set _ _))
    have i9 : In w.heap.size w (w_3.setCell ⟨b_R, 0, none⟩ (.slice (some ⟨g_1, 0, none⟩) (n) c_1)) := In.set_ i_3 (p := ⟨b_R, 0, none⟩) hwb_R _
    have HK : Hid ((w_3.setCell ⟨b_R, 0, none⟩ (.slice (some ⟨g_1, 0, none⟩) (n) c_1)).cell? ⟨b_R, 0, none⟩ = some (.slice (some ⟨g_1, 0, none⟩) (n) c_1)) := Lib.hid (by
      have h := (k_3_R.set_ 0 (.slice (some ⟨g_1, 0, none⟩) (n) c_1)).cell 0
      simpa using h)
    have hzr := k_3_R.frozen 0
    clear i_3 o_3_C hb_3
    go_wp2_with (first | (go_at_call 36; refine (sIn _ _ _ _).mono ?_; rintro e w' ⟨rfl, rfl⟩) | (go_at_call 48; refine (iIn _ _ _ _).mono ?_; rintro e w' ⟨rfl, rfl⟩))
    have hk := HK.out
    exact bodyPost_ret (v := .tuple #[.agg #[.slice (some ⟨g_1, 0, none⟩) (n) c_1], .bool false]) (by simp [results, Try.results23, go_sem, hk]) rfl (by rw [HV.out, HL.out]; exact rowStV_of hlen HO.out GX_C.out i9.below)
  cases h2 : inB k 0 3
  · have HV : Hid (fsB n xs k g = false) := Lib.hid (by simp [fsB, h2])
    have HL : Hid (FillStockL n xs k g = xs) := Lib.hid (by simp [FillStockL, HV.out])
    have HO : Hid (OwnC (w_3.setCell ⟨b_R, 0, none⟩ (.slice (some ⟨g_1, 0, none⟩) (n) c_1)) g_1 (n) c_1 xs) := Lib.hid (OwnC.far (by (with_reducible (repeat (first | assumption | apply OwnC.drewN | apply OwnC.drew | apply OwnC.alloc)))) (show Blk w_3 b_R 27 #[.slice none 0 0] from k_3_R) (by decide) (only_set _ _))
    have i9 : In w.heap.size w (w_3.setCell ⟨b_R, 0, none⟩ (.slice (some ⟨g_1, 0, none⟩) (n) c_1)) := In.set_ i_3 (p := ⟨b_R, 0, none⟩) hwb_R _
    have HK : Hid ((w_3.setCell ⟨b_R, 0, none⟩ (.slice (some ⟨g_1, 0, none⟩) (n) c_1)).cell? ⟨b_R, 0, none⟩ = some (.slice (some ⟨g_1, 0, none⟩) (n) c_1)) := Lib.hid (by
      have h := (k_3_R.set_ 0 (.slice (some ⟨g_1, 0, none⟩) (n) c_1)).cell 0
      simpa using h)
    have hzr := k_3_R.frozen 0
    clear i_3 o_3_C hb_3
    go_wp2_with (first | (go_at_call 36; refine (sIn _ _ _ _).mono ?_; rintro e w' ⟨rfl, rfl⟩) | (go_at_call 48; refine (iIn _ _ _ _).mono ?_; rintro e w' ⟨rfl, rfl⟩))
    have hk := HK.out
    exact bodyPost_ret (v := .tuple #[.agg #[.slice (some ⟨g_1, 0, none⟩) (n) c_1], .bool false]) (by simp [results, Try.results23, go_sem, hk]) rfl (by rw [HV.out, HL.out]; exact rowStV_of hlen HO.out GX_C.out i9.below)
  cases h3 : inB g 0 1000000
  · have HV : Hid (fsB n xs k g = false) := Lib.hid (by simp [fsB, h3])
    have HL : Hid (FillStockL n xs k g = xs) := Lib.hid (by simp [FillStockL, HV.out])
    have HO : Hid (OwnC (w_3.setCell ⟨b_R, 0, none⟩ (.slice (some ⟨g_1, 0, none⟩) (n) c_1)) g_1 (n) c_1 xs) := Lib.hid (OwnC.far (by (with_reducible (repeat (first | assumption | apply OwnC.drewN | apply OwnC.drew | apply OwnC.alloc)))) (show Blk w_3 b_R 27 #[.slice none 0 0] from k_3_R) (by decide) (only_set _ _))
    have i9 : In w.heap.size w (w_3.setCell ⟨b_R, 0, none⟩ (.slice (some ⟨g_1, 0, none⟩) (n) c_1)) := In.set_ i_3 (p := ⟨b_R, 0, none⟩) hwb_R _
    have HK : Hid ((w_3.setCell ⟨b_R, 0, none⟩ (.slice (some ⟨g_1, 0, none⟩) (n) c_1)).cell? ⟨b_R, 0, none⟩ = some (.slice (some ⟨g_1, 0, none⟩) (n) c_1)) := Lib.hid (by
      have h := (k_3_R.set_ 0 (.slice (some ⟨g_1, 0, none⟩) (n) c_1)).cell 0
      simpa using h)
    have hzr := k_3_R.frozen 0
    clear i_3 o_3_C hb_3
    go_wp2_with (first | (go_at_call 36; refine (sIn _ _ _ _).mono ?_; rintro e w' ⟨rfl, rfl⟩) | (go_at_call 48; refine (iIn _ _ _ _).mono ?_; rintro e w' ⟨rfl, rfl⟩))
    have hk := HK.out
    exact bodyPost_ret (v := .tuple #[.agg #[.slice (some ⟨g_1, 0, none⟩) (n) c_1], .bool false]) (by simp [results, Try.results23, go_sem, hk]) rfl (by rw [HV.out, HL.out]; exact rowStV_of hlen HO.out GX_C.out i9.below)
  obtain ⟨k1, k2⟩ := inB_tt h2
  obtain ⟨g1, g2⟩ := inB_tt h3
  obtain ⟨rfl, hst⟩ := st_at h1
  obtain ⟨t, rfl⟩ : ∃ t : Nat, k = t := ⟨k.toNat, by omega⟩
  have ht : t < 4 := by omega
  have hxb := hst t ht
  have hr := HX.out.below (In.below i_3) (Nat.le_refl _)
  obtain ⟨a', ha', hx⟩ := hr.2 t ht
  injection ha' with ha'
  subst ha'
  clear hr
  have hbd : -9223372036854775808 ≤ xs.getD t 0 + g ∧ xs.getD t 0 + g ≤ 9223372036854775807 := by omega
  have hw65 : wrap64 (xs.getD t 0 + g) = xs.getD t 0 + g := w64 hbd
  have hw64 : IntKind.i64.wrap (xs.getD t 0 + g) = xs.getD t 0 + g := IntWalk.i64_in _ hbd
  obtain ⟨x, hxx⟩ : ∃ x, xs.getD t 0 = x := ⟨_, rfl⟩
  have hF4 : x + g ≤ 1000000 → fsB 4 xs t g = true := fun h => fs_t h1 h2 h3 (by omega)
  have hF5 : ¬ x + g ≤ 1000000 → fsB 4 xs t g = false := fun h => fs_f (by omega)
  have hF6 : fsB 4 xs t g = true → FillStockL 4 xs t g = xs.set t (x + g) := fun h => by simp only [FillStockL, h, if_true, Int.toNat_natCast]; rw [hxx]
  have o0 : OwnC w_3 g_1 4 c_1 xs := o_3_C
  have cy := o0.cellI ht
  have HP := Lib.hid (o0.put t (xs.getD t 0 + g))
  rw [hxx] at hxb hx hbd hw64 hw65 cy HP
  clear hxx
  have hneO := OwnC.ne o_3_C k_3_O (by decide)
  by_cases h4 : x + g ≤ 1000000
  · have HV := Lib.hid (hF4 h4)
    have HL := Lib.hid (hF6 HV.out)
    have hd : decide (1000000 < x + g) = false := decide_eq_false (by omega)
    clear hF4 hF5 hF6
    have fy := o0.free t
    have hneR := o0.ne k_3_R (by decide)
    clear o0
    clear o_3_C
    have i8 : In w.heap.size w ((w_3.setCell ⟨g_1, t, none⟩ (.int .i64 (x + g))).drew) := (In.set_ i_3 (p := ⟨g_1, t, none⟩) GX_C.out _).drew
    have k8 : Blk ((w_3.setCell ⟨g_1, t, none⟩ (.int .i64 (x + g))).drew) b_R 27 #[.slice none 0 0] := (Blk.far k_3_R (p := ⟨g_1, t, none⟩) (fun h => hneR h.symm) _).drew
    have HO8 : Hid (OwnC ((w_3.setCell ⟨g_1, t, none⟩ (.int .i64 (x + g))).drew) g_1 4 c_1 (xs.set t (x + g))) := Lib.hid (HP.out.drew)
    have c8 := k8.cell 0
    have z8 := k8.frozen 0
    have kO8 : Blk ((w_3.setCell ⟨g_1, t, none⟩ (.int .i64 (x + g))).drew) b_O 27 #[.slice (some ⟨g_1, 0, none⟩) 4 c_1] := (Blk.far k_3_O (p := ⟨g_1, t, none⟩) (fun h => hneO h.symm) _).drew
    have cO8 := kO8.cell 0
    go_wp2_with (first | (go_at_call 36; refine (sIn _ _ _ _).mono ?_; rintro e w' ⟨rfl, rfl⟩) | (go_at_call 48; refine (iIn _ _ _ _).mono ?_; rintro e w' ⟨rfl, rfl⟩))
    go_region
    generalize ((w_3.setCell ⟨g_1, t, none⟩ (.int .i64 (x + g))).drew) = w_9 at *
    have i_9 := i8
    have o_9_C := HO8.out
    have k_9_R := k8
    clear i8 k8 HO8 HP kO8
    have HO : Hid (OwnC (w_9.setCell ⟨b_R, 0, none⟩ (.slice (some ⟨g_1, 0, none⟩) (4) c_1)) g_1 (4) c_1 (xs.set t (x + g))) := Lib.hid (OwnC.far (by (with_reducible (repeat (first | assumption | apply OwnC.drewN | apply OwnC.drew | apply OwnC.alloc)))) (show Blk w_9 b_R 27 #[.slice none 0 0] from k_9_R) (by decide) (only_set _ _))
    have i9 : In w.heap.size w (w_9.setCell ⟨b_R, 0, none⟩ (.slice (some ⟨g_1, 0, none⟩) (4) c_1)) := In.set_ i_9 (p := ⟨b_R, 0, none⟩) hwb_R _
    have HK : Hid ((w_9.setCell ⟨b_R, 0, none⟩ (.slice (some ⟨g_1, 0, none⟩) (4) c_1)).cell? ⟨b_R, 0, none⟩ = some (.slice (some ⟨g_1, 0, none⟩) (4) c_1)) := Lib.hid (by
      have h := (k_9_R.set_ 0 (.slice (some ⟨g_1, 0, none⟩) (4) c_1)).cell 0
      simpa using h)
    have hzr := k_9_R.frozen 0
    clear o_9_C i_9
    go_wp2_with (first | (go_at_call 36; refine (sIn _ _ _ _).mono ?_; rintro e w' ⟨rfl, rfl⟩) | (go_at_call 48; refine (iIn _ _ _ _).mono ?_; rintro e w' ⟨rfl, rfl⟩))
    have hk := HK.out
    exact bodyPost_ret (v := .tuple #[.agg #[.slice (some ⟨g_1, 0, none⟩) (4) c_1], .bool true]) (by simp [results, Try.results23, go_sem, hk]) rfl (by rw [HV.out, HL.out]; exact rowStV_of (by simp [hlen]) HO.out GX_C.out i9.below)
  · have hv := hF5 (by omega)
    have hd : decide (1000000 < x + g) = true := decide_eq_true (by omega)
    clear hF4 hF5 hF6 HP
    have HV : Hid (fsB 4 xs (t : Int) g = false) := Lib.hid (by exact hv)
    have HL : Hid (FillStockL 4 xs (t : Int) g = xs) := Lib.hid (by simp [FillStockL, HV.out])
    have HO : Hid (OwnC (w_3.setCell ⟨b_R, 0, none⟩ (.slice (some ⟨g_1, 0, none⟩) (4) c_1)) g_1 (4) c_1 xs) := Lib.hid (OwnC.far (by (with_reducible (repeat (first | assumption | apply OwnC.drewN | apply OwnC.drew | apply OwnC.alloc)))) (show Blk w_3 b_R 27 #[.slice none 0 0] from k_3_R) (by decide) (only_set _ _))
    have i9 : In w.heap.size w (w_3.setCell ⟨b_R, 0, none⟩ (.slice (some ⟨g_1, 0, none⟩) (4) c_1)) := In.set_ i_3 (p := ⟨b_R, 0, none⟩) hwb_R _
    have HK : Hid ((w_3.setCell ⟨b_R, 0, none⟩ (.slice (some ⟨g_1, 0, none⟩) (4) c_1)).cell? ⟨b_R, 0, none⟩ = some (.slice (some ⟨g_1, 0, none⟩) (4) c_1)) := Lib.hid (by
      have h := (k_3_R.set_ 0 (.slice (some ⟨g_1, 0, none⟩) (4) c_1)).cell 0
      simpa using h)
    have hzr := k_3_R.frozen 0
    clear i_3 o_3_C hb_3
    go_wp2_with (first | (go_at_call 36; refine (sIn _ _ _ _).mono ?_; rintro e w' ⟨rfl, rfl⟩) | (go_at_call 48; refine (iIn _ _ _ _).mono ?_; rintro e w' ⟨rfl, rfl⟩))
    have hk := HK.out
    exact bodyPost_ret (v := .tuple #[.agg #[.slice (some ⟨g_1, 0, none⟩) (4) c_1], .bool false]) (by simp [results, Try.results23, go_sem, hk]) rfl (by rw [HV.out, HL.out]; exact rowStV_of hlen HO.out GX_C.out i9.below)
theorem iFillStock (ad : Addr) (n cap : Nat) (xs : List Int) (k g : Int) (w : World) (hn : n ≤ 10000000) (hx : ReadsI w (some ad) n xs) : Calls Try.prog 24 #[.agg #[.slice (some ad) n cap], .int .i64 k, .int .i64 g] w (RowStV (FillStockL n xs k g) (.bool (fsB n xs k g)) w) := by
  have HX := Lib.hid hx
  have hlen := hx.1
  clear hx
  obtain ⟨b_A, hbx_A⟩ : ∃ b, b = w.heap.size := ⟨_, rfl⟩
  have kk_A : Blk ((w.alloc (.cells #[.slice (some ad) n cap] 27)).alloc (.cells #[.slice none 0 0] 27)) b_A 27 #[.slice (some ad) n cap] := ((Blk.new' (w := w) (t := 27) (cs := #[.slice (some ad) n cap]) (g := b_A) (by simp [hbx_A])).alloc (.cells #[.slice none 0 0] 27))
  have hwb_A : w.heap.size ≤ b_A := by omega
  obtain ⟨b_R, hbx_R⟩ : ∃ b, b = w.heap.size + 1 := ⟨_, rfl⟩
  have kk_R : Blk ((w.alloc (.cells #[.slice (some ad) n cap] 27)).alloc (.cells #[.slice none 0 0] 27)) b_R 27 #[.slice none 0 0] := (Blk.new' (w := (w.alloc (.cells #[.slice (some ad) n cap] 27))) (t := 27) (cs := #[.slice none 0 0]) (g := b_R) (by simp [hbx_R]))
  have hwb_R : w.heap.size ≤ b_R := by omega
  have NB_A_R : Hid (b_A ≠ b_R) := Lib.hid (by omega)
  have hb_0 : Below w.heap.size w ((w.alloc (.cells #[.slice (some ad) n cap] 27)).alloc (.cells #[.slice none 0 0] 27)) := by
    have h : In w.heap.size w ((w.alloc (.cells #[.slice (some ad) n cap] 27)).alloc (.cells #[.slice none 0 0] 27)) := by (repeat (first | exact In.refl _ | assumption | apply In.alloc | apply In.drewN | apply In.drew | (refine In.step ?_ (by assumption))))
    exact h.below
  go_enter Try.func24, Try.ntmps24
  go_wp2_with fail
  rw [← hbx_R]
  clear hbx_R
  rw [← hbx_A]
  clear hbx_A
  generalize ((w.alloc (.cells #[.slice (some ad) n cap] 27)).alloc (.cells #[.slice none 0 0] 27)) = w_0 at *
  have i_0 : In w.heap.size w w_0 := In.step (by (repeat (first | exact In.refl _ | assumption | apply In.alloc | apply In.drewN | apply In.drew | (refine In.step ?_ (by assumption))))) hb_0
  have k_0_A : Blk w_0 b_A 27 #[.slice (some ad) n cap] := kk_A
  have c_0_A_0 : w_0.cell? ⟨b_A, 0, none⟩ = some (.slice (some ad) n cap) := k_0_A.cell 0
  have l_0_A := k_0_A.lt
  have k_0_R : Blk w_0 b_R 27 #[.slice none 0 0] := kk_R
  have c_0_R_0 : w_0.cell? ⟨b_R, 0, none⟩ = some (.slice none 0 0) := k_0_R.cell 0
  have l_0_R := k_0_R.lt
  have z_0_R_0 := k_0_R.frozen 0
  clear kk_A kk_R
  go_wp2_with fail
  refine (iStoreOk (some ad) n cap xs _ (by unfold maxLen; omega) (HX.out.below (In.below (by (repeat (first | exact In.refl _ | assumption | apply In.alloc | apply In.drewN | apply In.drew | (refine In.step ?_ (by assumption)))))) (Nat.le_refl _))).mono ?_
  rintro _ w_1 ⟨rfl, hb_1⟩
  have i_1 : In w.heap.size w w_1 := In.step (by (repeat (first | exact In.refl _ | assumption | apply In.alloc | apply In.drewN | apply In.drew | (refine In.step ?_ (by assumption))))) hb_1
  have k_1_A : Blk w_1 b_A 27 #[.slice (some ad) n cap] := Blk.step (by (with_reducible (repeat (first | assumption | exact Blk.new' (by simp) | apply Blk.drewN | apply Blk.drew | apply Blk.alloc | (refine Blk.far ?_ (by (try simp) <;> omega) _))))) hb_1
  have c_1_A_0 : w_1.cell? ⟨b_A, 0, none⟩ = some (.slice (some ad) n cap) := k_1_A.cell 0
  have l_1_A := k_1_A.lt
  have k_1_R : Blk w_1 b_R 27 #[.slice none 0 0] := Blk.step (by (with_reducible (repeat (first | assumption | exact Blk.new' (by simp) | apply Blk.drewN | apply Blk.drew | apply Blk.alloc | (refine Blk.far ?_ (by (try simp) <;> omega) _))))) hb_1
  have c_1_R_0 : w_1.cell? ⟨b_R, 0, none⟩ = some (.slice none 0 0) := k_1_R.cell 0
  have l_1_R := k_1_R.lt
  have z_1_R_0 := k_1_R.frozen 0
  clear i_0 k_0_A c_0_A_0 l_0_A k_0_R c_0_R_0 l_0_R z_0_R_0 hb_0
  cases h1 : stB n xs
  · have HV : Hid (fsB n xs k g = false) := Lib.hid (by simp [fsB, h1])
    have HL : Hid (FillStockL n xs k g = xs) := Lib.hid (by simp [FillStockL, HV.out])
    go_wp2_with (first | (go_at_call 36; refine (sIn _ _ _ _).mono ?_; rintro e w' ⟨rfl, rfl⟩) | (go_at_call 48; refine (iIn _ _ _ _).mono ?_; rintro e w' ⟨rfl, rfl⟩))
    refine (icopied ad n cap xs _ (by omega) (HX.out.below (In.below (by (repeat (first | exact In.refl _ | assumption | apply In.alloc | apply In.drewN | apply In.drew | (refine In.step ?_ (by assumption)))))) (Nat.le_refl _))).mono ?_
    rintro _ w_2 ⟨g_2, c_2, rfl, ho_2, hg_2, hb_2⟩
    rw [hlen] at ho_2
    rw [hlen]
    have GX_Z : Hid (w.heap.size ≤ g_2) := Lib.hid (by have h1 := hg_2; (try simp at h1); have h2 := In.size i_1; omega)
    have o_2_Z : OwnC w_2 g_2 (n) c_2 xs := ho_2
    clear ho_2 hg_2
    have i_2 : In w.heap.size w w_2 := In.step (by (repeat (first | exact In.refl _ | assumption | apply In.alloc | apply In.drewN | apply In.drew | (refine In.step ?_ (by assumption))))) hb_2
    have k_2_A : Blk w_2 b_A 27 #[.slice (some ad) n cap] := Blk.step (by (with_reducible (repeat (first | assumption | exact Blk.new' (by simp) | apply Blk.drewN | apply Blk.drew | apply Blk.alloc | (refine Blk.far ?_ (by (try simp) <;> omega) _))))) hb_2
    have c_2_A_0 : w_2.cell? ⟨b_A, 0, none⟩ = some (.slice (some ad) n cap) := k_2_A.cell 0
    have l_2_A := k_2_A.lt
    have k_2_R : Blk w_2 b_R 27 #[.slice none 0 0] := Blk.step (by (with_reducible (repeat (first | assumption | exact Blk.new' (by simp) | apply Blk.drewN | apply Blk.drew | apply Blk.alloc | (refine Blk.far ?_ (by (try simp) <;> omega) _))))) hb_2
    have c_2_R_0 : w_2.cell? ⟨b_R, 0, none⟩ = some (.slice none 0 0) := k_2_R.cell 0
    have l_2_R := k_2_R.lt
    have z_2_R_0 := k_2_R.frozen 0
    clear i_1 k_1_A c_1_A_0 l_1_A k_1_R c_1_R_0 l_1_R z_1_R_0 hb_1
    have HO : Hid (OwnC (w_2.setCell ⟨b_R, 0, none⟩ (.slice (some ⟨g_2, 0, none⟩) (n) c_2)) g_2 (n) c_2 xs) := Lib.hid (OwnC.far (by (with_reducible (repeat (first | assumption | apply OwnC.drewN | apply OwnC.drew | apply OwnC.alloc)))) (show Blk w_2 b_R 27 #[.slice none 0 0] from k_2_R) (by decide) (only_set _ _))
    have i9 : In w.heap.size w (w_2.setCell ⟨b_R, 0, none⟩ (.slice (some ⟨g_2, 0, none⟩) (n) c_2)) := In.set_ i_2 (p := ⟨b_R, 0, none⟩) hwb_R _
    have HK : Hid ((w_2.setCell ⟨b_R, 0, none⟩ (.slice (some ⟨g_2, 0, none⟩) (n) c_2)).cell? ⟨b_R, 0, none⟩ = some (.slice (some ⟨g_2, 0, none⟩) (n) c_2)) := Lib.hid (by
      have h := (k_2_R.set_ 0 (.slice (some ⟨g_2, 0, none⟩) (n) c_2)).cell 0
      simpa using h)
    have hzr := k_2_R.frozen 0
    clear i_2 o_2_Z hb_2
    go_wp2_with (first | (go_at_call 36; refine (sIn _ _ _ _).mono ?_; rintro e w' ⟨rfl, rfl⟩) | (go_at_call 48; refine (iIn _ _ _ _).mono ?_; rintro e w' ⟨rfl, rfl⟩))
    have hk := HK.out
    exact bodyPost_ret (v := .tuple #[.agg #[.slice (some ⟨g_2, 0, none⟩) (n) c_2], .bool false]) (by simp [results, Try.results24, go_sem, hk]) rfl (by rw [HV.out, HL.out]; exact rowStV_of hlen HO.out GX_Z.out i9.below)
  cases h2 : inB k 0 3
  · have HV : Hid (fsB n xs k g = false) := Lib.hid (by simp [fsB, h2])
    have HL : Hid (FillStockL n xs k g = xs) := Lib.hid (by simp [FillStockL, HV.out])
    go_wp2_with (first | (go_at_call 36; refine (sIn _ _ _ _).mono ?_; rintro e w' ⟨rfl, rfl⟩) | (go_at_call 48; refine (iIn _ _ _ _).mono ?_; rintro e w' ⟨rfl, rfl⟩))
    refine (icopied ad n cap xs _ (by omega) (HX.out.below (In.below (by (repeat (first | exact In.refl _ | assumption | apply In.alloc | apply In.drewN | apply In.drew | (refine In.step ?_ (by assumption)))))) (Nat.le_refl _))).mono ?_
    rintro _ w_2 ⟨g_2, c_2, rfl, ho_2, hg_2, hb_2⟩
    rw [hlen] at ho_2
    rw [hlen]
    have GX_Z : Hid (w.heap.size ≤ g_2) := Lib.hid (by have h1 := hg_2; (try simp at h1); have h2 := In.size i_1; omega)
    have o_2_Z : OwnC w_2 g_2 (n) c_2 xs := ho_2
    clear ho_2 hg_2
    have i_2 : In w.heap.size w w_2 := In.step (by (repeat (first | exact In.refl _ | assumption | apply In.alloc | apply In.drewN | apply In.drew | (refine In.step ?_ (by assumption))))) hb_2
    have k_2_A : Blk w_2 b_A 27 #[.slice (some ad) n cap] := Blk.step (by (with_reducible (repeat (first | assumption | exact Blk.new' (by simp) | apply Blk.drewN | apply Blk.drew | apply Blk.alloc | (refine Blk.far ?_ (by (try simp) <;> omega) _))))) hb_2
    have c_2_A_0 : w_2.cell? ⟨b_A, 0, none⟩ = some (.slice (some ad) n cap) := k_2_A.cell 0
    have l_2_A := k_2_A.lt
    have k_2_R : Blk w_2 b_R 27 #[.slice none 0 0] := Blk.step (by (with_reducible (repeat (first | assumption | exact Blk.new' (by simp) | apply Blk.drewN | apply Blk.drew | apply Blk.alloc | (refine Blk.far ?_ (by (try simp) <;> omega) _))))) hb_2
    have c_2_R_0 : w_2.cell? ⟨b_R, 0, none⟩ = some (.slice none 0 0) := k_2_R.cell 0
    have l_2_R := k_2_R.lt
    have z_2_R_0 := k_2_R.frozen 0
    clear i_1 k_1_A c_1_A_0 l_1_A k_1_R c_1_R_0 l_1_R z_1_R_0 hb_1
    have HO : Hid (OwnC (w_2.setCell ⟨b_R, 0, none⟩ (.slice (some ⟨g_2, 0, none⟩) (n) c_2)) g_2 (n) c_2 xs) := Lib.hid (OwnC.far (by (with_reducible (repeat (first | assumption | apply OwnC.drewN | apply OwnC.drew | apply OwnC.alloc)))) (show Blk w_2 b_R 27 #[.slice none 0 0] from k_2_R) (by decide) (only_set _ _))
    have i9 : In w.heap.size w (w_2.setCell ⟨b_R, 0, none⟩ (.slice (some ⟨g_2, 0, none⟩) (n) c_2)) := In.set_ i_2 (p := ⟨b_R, 0, none⟩) hwb_R _
    have HK : Hid ((w_2.setCell ⟨b_R, 0, none⟩ (.slice (some ⟨g_2, 0, none⟩) (n) c_2)).cell? ⟨b_R, 0, none⟩ = some (.slice (some ⟨g_2, 0, none⟩) (n) c_2)) := Lib.hid (by
      have h := (k_2_R.set_ 0 (.slice (some ⟨g_2, 0, none⟩) (n) c_2)).cell 0
      simpa using h)
    have hzr := k_2_R.frozen 0
    clear i_2 o_2_Z hb_2
    go_wp2_with (first | (go_at_call 36; refine (sIn _ _ _ _).mono ?_; rintro e w' ⟨rfl, rfl⟩) | (go_at_call 48; refine (iIn _ _ _ _).mono ?_; rintro e w' ⟨rfl, rfl⟩))
    have hk := HK.out
    exact bodyPost_ret (v := .tuple #[.agg #[.slice (some ⟨g_2, 0, none⟩) (n) c_2], .bool false]) (by simp [results, Try.results24, go_sem, hk]) rfl (by rw [HV.out, HL.out]; exact rowStV_of hlen HO.out GX_Z.out i9.below)
  cases h3 : inB g 0 1000000
  · have HV : Hid (fsB n xs k g = false) := Lib.hid (by simp [fsB, h3])
    have HL : Hid (FillStockL n xs k g = xs) := Lib.hid (by simp [FillStockL, HV.out])
    go_wp2_with (first | (go_at_call 36; refine (sIn _ _ _ _).mono ?_; rintro e w' ⟨rfl, rfl⟩) | (go_at_call 48; refine (iIn _ _ _ _).mono ?_; rintro e w' ⟨rfl, rfl⟩))
    refine (icopied ad n cap xs _ (by omega) (HX.out.below (In.below (by (repeat (first | exact In.refl _ | assumption | apply In.alloc | apply In.drewN | apply In.drew | (refine In.step ?_ (by assumption)))))) (Nat.le_refl _))).mono ?_
    rintro _ w_2 ⟨g_2, c_2, rfl, ho_2, hg_2, hb_2⟩
    rw [hlen] at ho_2
    rw [hlen]
    have GX_Z : Hid (w.heap.size ≤ g_2) := Lib.hid (by have h1 := hg_2; (try simp at h1); have h2 := In.size i_1; omega)
    have o_2_Z : OwnC w_2 g_2 (n) c_2 xs := ho_2
    clear ho_2 hg_2
    have i_2 : In w.heap.size w w_2 := In.step (by (repeat (first | exact In.refl _ | assumption | apply In.alloc | apply In.drewN | apply In.drew | (refine In.step ?_ (by assumption))))) hb_2
    have k_2_A : Blk w_2 b_A 27 #[.slice (some ad) n cap] := Blk.step (by (with_reducible (repeat (first | assumption | exact Blk.new' (by simp) | apply Blk.drewN | apply Blk.drew | apply Blk.alloc | (refine Blk.far ?_ (by (try simp) <;> omega) _))))) hb_2
    have c_2_A_0 : w_2.cell? ⟨b_A, 0, none⟩ = some (.slice (some ad) n cap) := k_2_A.cell 0
    have l_2_A := k_2_A.lt
    have k_2_R : Blk w_2 b_R 27 #[.slice none 0 0] := Blk.step (by (with_reducible (repeat (first | assumption | exact Blk.new' (by simp) | apply Blk.drewN | apply Blk.drew | apply Blk.alloc | (refine Blk.far ?_ (by (try simp) <;> omega) _))))) hb_2
    have c_2_R_0 : w_2.cell? ⟨b_R, 0, none⟩ = some (.slice none 0 0) := k_2_R.cell 0
    have l_2_R := k_2_R.lt
    have z_2_R_0 := k_2_R.frozen 0
    clear i_1 k_1_A c_1_A_0 l_1_A k_1_R c_1_R_0 l_1_R z_1_R_0 hb_1
    have HO : Hid (OwnC (w_2.setCell ⟨b_R, 0, none⟩ (.slice (some ⟨g_2, 0, none⟩) (n) c_2)) g_2 (n) c_2 xs) := Lib.hid (OwnC.far (by (with_reducible (repeat (first | assumption | apply OwnC.drewN | apply OwnC.drew | apply OwnC.alloc)))) (show Blk w_2 b_R 27 #[.slice none 0 0] from k_2_R) (by decide) (only_set _ _))
    have i9 : In w.heap.size w (w_2.setCell ⟨b_R, 0, none⟩ (.slice (some ⟨g_2, 0, none⟩) (n) c_2)) := In.set_ i_2 (p := ⟨b_R, 0, none⟩) hwb_R _
    have HK : Hid ((w_2.setCell ⟨b_R, 0, none⟩ (.slice (some ⟨g_2, 0, none⟩) (n) c_2)).cell? ⟨b_R, 0, none⟩ = some (.slice (some ⟨g_2, 0, none⟩) (n) c_2)) := Lib.hid (by
      have h := (k_2_R.set_ 0 (.slice (some ⟨g_2, 0, none⟩) (n) c_2)).cell 0
      simpa using h)
    have hzr := k_2_R.frozen 0
    clear i_2 o_2_Z hb_2
    go_wp2_with (first | (go_at_call 36; refine (sIn _ _ _ _).mono ?_; rintro e w' ⟨rfl, rfl⟩) | (go_at_call 48; refine (iIn _ _ _ _).mono ?_; rintro e w' ⟨rfl, rfl⟩))
    have hk := HK.out
    exact bodyPost_ret (v := .tuple #[.agg #[.slice (some ⟨g_2, 0, none⟩) (n) c_2], .bool false]) (by simp [results, Try.results24, go_sem, hk]) rfl (by rw [HV.out, HL.out]; exact rowStV_of hlen HO.out GX_Z.out i9.below)
  obtain ⟨k1, k2⟩ := inB_tt h2
  obtain ⟨g1, g2⟩ := inB_tt h3
  obtain ⟨rfl, hst⟩ := st_at h1
  obtain ⟨t, rfl⟩ : ∃ t : Nat, k = t := ⟨k.toNat, by omega⟩
  have ht : t < 4 := by omega
  have hxb := hst t ht
  go_wp2_with (first | (go_at_call 36; refine (sIn _ _ _ _).mono ?_; rintro e w' ⟨rfl, rfl⟩) | (go_at_call 48; refine (iIn _ _ _ _).mono ?_; rintro e w' ⟨rfl, rfl⟩))
  refine (icopied ad 4 cap xs _ (by omega) (HX.out.below (In.below (by (repeat (first | exact In.refl _ | assumption | apply In.alloc | apply In.drewN | apply In.drew | (refine In.step ?_ (by assumption)))))) (Nat.le_refl _))).mono ?_
  rintro _ w_2 ⟨g_2, c_2, rfl, ho_2, hg_2, hb_2⟩
  rw [hlen] at ho_2
  rw [hlen]
  have GX_C : Hid (w.heap.size ≤ g_2) := Lib.hid (by have h1 := hg_2; (try simp at h1); have h2 := In.size i_1; omega)
  have o_2_C : OwnC w_2 g_2 (4) c_2 xs := ho_2
  clear ho_2 hg_2
  have i_2 : In w.heap.size w w_2 := In.step (by (repeat (first | exact In.refl _ | assumption | apply In.alloc | apply In.drewN | apply In.drew | (refine In.step ?_ (by assumption))))) hb_2
  have k_2_A : Blk w_2 b_A 27 #[.slice (some ad) 4 cap] := Blk.step (by (with_reducible (repeat (first | assumption | exact Blk.new' (by simp) | apply Blk.drewN | apply Blk.drew | apply Blk.alloc | (refine Blk.far ?_ (by (try simp) <;> omega) _))))) hb_2
  have c_2_A_0 : w_2.cell? ⟨b_A, 0, none⟩ = some (.slice (some ad) 4 cap) := k_2_A.cell 0
  have l_2_A := k_2_A.lt
  have k_2_R : Blk w_2 b_R 27 #[.slice none 0 0] := Blk.step (by (with_reducible (repeat (first | assumption | exact Blk.new' (by simp) | apply Blk.drewN | apply Blk.drew | apply Blk.alloc | (refine Blk.far ?_ (by (try simp) <;> omega) _))))) hb_2
  have c_2_R_0 : w_2.cell? ⟨b_R, 0, none⟩ = some (.slice none 0 0) := k_2_R.cell 0
  have l_2_R := k_2_R.lt
  have z_2_R_0 := k_2_R.frozen 0
  clear i_1 k_1_A c_1_A_0 l_1_A k_1_R c_1_R_0 l_1_R z_1_R_0 hb_1
  have hbd : -9223372036854775808 ≤ xs.getD t 0 + g ∧ xs.getD t 0 + g ≤ 9223372036854775807 := by omega
  have hw65 : wrap64 (xs.getD t 0 + g) = xs.getD t 0 + g := w64 hbd
  have hw64 : IntKind.i64.wrap (xs.getD t 0 + g) = xs.getD t 0 + g := IntWalk.i64_in _ hbd
  have o0 : OwnC w_2 g_2 4 c_2 xs := o_2_C
  have cy := o0.cellI ht
  have fy := o0.free t
  have HP := Lib.hid (o0.put t (xs.getD t 0 + g))
  have hneR := o0.ne k_2_R (by decide)
  have hneA := o0.ne k_2_A (by decide)
  have hgl := o0.lt
  obtain ⟨x, hxx⟩ : ∃ x, xs.getD t 0 = x := ⟨_, rfl⟩
  have h5 : stB 4 (xs.set t (x + g)) = decide (x + g ≤ 1000000) := st_set hlen h1 ht (by omega)
  have hF4 : x + g ≤ 1000000 → fsB 4 xs t g = true := fun h => fs_t h1 h2 h3 (by omega)
  have hF5 : ¬ x + g ≤ 1000000 → fsB 4 xs t g = false := fun h => fs_f (by omega)
  have hF6 : fsB 4 xs t g = true → FillStockL 4 xs t g = xs.set t (x + g) := fun h => by simp only [FillStockL, h, if_true, Int.toNat_natCast]; rw [hxx]
  rw [hxx] at hxb hbd hw64 hw65 cy HP
  clear hxx o0
  clear o_2_C
  go_wp2_with (first | (go_at_call 36; refine (sIn _ _ _ _).mono ?_; rintro e w' ⟨rfl, rfl⟩) | (go_at_call 48; refine (iIn _ _ _ _).mono ?_; rintro e w' ⟨rfl, rfl⟩))
  have hsz : (w_2.setCell ⟨g_2, t, none⟩ (.int .i64 (x + g))).heap.size = w_2.heap.size := by simp [World.setCell]
  obtain ⟨b_O, hbO⟩ : ∃ b, b = w_2.heap.size := ⟨_, rfl⟩
  rw [← hbO]
  have hwb_O : w.heap.size ≤ b_O := by have h := In.size i_2; omega
  have i8 : In w.heap.size w ((w_2.setCell ⟨g_2, t, none⟩ (.int .i64 (x + g))).alloc (.cells #[.slice (some ⟨g_2, 0, none⟩) 4 c_2] 27)) := (In.set_ i_2 (p := ⟨g_2, t, none⟩) GX_C.out _).alloc _
  have kA8 : Blk ((w_2.setCell ⟨g_2, t, none⟩ (.int .i64 (x + g))).alloc (.cells #[.slice (some ⟨g_2, 0, none⟩) 4 c_2] 27)) b_A 27 #[.slice (some ad) 4 cap] := (Blk.far k_2_A (p := ⟨g_2, t, none⟩) (fun h => hneA h.symm) _).alloc _
  have kR8 : Blk ((w_2.setCell ⟨g_2, t, none⟩ (.int .i64 (x + g))).alloc (.cells #[.slice (some ⟨g_2, 0, none⟩) 4 c_2] 27)) b_R 27 #[.slice none 0 0] := (Blk.far k_2_R (p := ⟨g_2, t, none⟩) (fun h => hneR h.symm) _).alloc _
  have kO8 : Blk ((w_2.setCell ⟨g_2, t, none⟩ (.int .i64 (x + g))).alloc (.cells #[.slice (some ⟨g_2, 0, none⟩) 4 c_2] 27)) b_O 27 #[.slice (some ⟨g_2, 0, none⟩) 4 c_2] := Blk.new' (by rw [hsz]; exact hbO)
  have HO8 : Hid (OwnC ((w_2.setCell ⟨g_2, t, none⟩ (.int .i64 (x + g))).alloc (.cells #[.slice (some ⟨g_2, 0, none⟩) 4 c_2] 27)) g_2 4 c_2 (xs.set t (x + g))) := Lib.hid (HP.out.alloc _)
  clear hsz hbO HP
  generalize ((w_2.setCell ⟨g_2, t, none⟩ (.int .i64 (x + g))).alloc (.cells #[.slice (some ⟨g_2, 0, none⟩) 4 c_2] 27)) = w_9 at *
  have k_9_A := kA8
  have c_9_A_0 := kA8.cell 0
  have l_9_A := kA8.lt
  have k_9_R := kR8
  have c_9_R_0 := kR8.cell 0
  have l_9_R := kR8.lt
  have k_9_O := kO8
  have c_9_O_0 := kO8.cell 0
  have l_9_O := kO8.lt
  have z_9_R_0 := kR8.frozen 0
  have i_9 := i8
  have o_9_C := HO8.out
  have hb_9 := Below.refl w_9.heap.size w_9
  clear i8 kA8 kR8 kO8 HO8 i_2 k_2_A c_2_A_0 l_2_A k_2_R c_2_R_0 l_2_R z_2_R_0 hb_2
  go_wp2_with fail
  refine (iStoreOk (some ⟨g_2, 0, none⟩) 4 c_2 (xs.set t (x + g)) _ (by unfold maxLen; omega) o_9_C.reads).mono ?_
  rintro _ w_10 ⟨rfl, hb_10⟩
  have i_10 : In w.heap.size w w_10 := In.step (by (repeat (first | exact In.refl _ | assumption | apply In.alloc | apply In.drewN | apply In.drew | (refine In.step ?_ (by assumption))))) hb_10
  have k_10_A : Blk w_10 b_A 27 #[.slice (some ad) 4 cap] := Blk.step (by (with_reducible (repeat (first | assumption | exact Blk.new' (by simp) | apply Blk.drewN | apply Blk.drew | apply Blk.alloc | (refine Blk.far ?_ (by (try simp) <;> omega) _))))) hb_10
  have c_10_A_0 : w_10.cell? ⟨b_A, 0, none⟩ = some (.slice (some ad) 4 cap) := k_10_A.cell 0
  have l_10_A := k_10_A.lt
  have k_10_R : Blk w_10 b_R 27 #[.slice none 0 0] := Blk.step (by (with_reducible (repeat (first | assumption | exact Blk.new' (by simp) | apply Blk.drewN | apply Blk.drew | apply Blk.alloc | (refine Blk.far ?_ (by (try simp) <;> omega) _))))) hb_10
  have c_10_R_0 : w_10.cell? ⟨b_R, 0, none⟩ = some (.slice none 0 0) := k_10_R.cell 0
  have l_10_R := k_10_R.lt
  have z_10_R_0 := k_10_R.frozen 0
  have k_10_O : Blk w_10 b_O 27 #[.slice (some ⟨g_2, 0, none⟩) 4 c_2] := Blk.step (by (with_reducible (repeat (first | assumption | exact Blk.new' (by simp) | apply Blk.drewN | apply Blk.drew | apply Blk.alloc | (refine Blk.far ?_ (by (try simp) <;> omega) _))))) hb_10
  have c_10_O_0 : w_10.cell? ⟨b_O, 0, none⟩ = some (.slice (some ⟨g_2, 0, none⟩) 4 c_2) := k_10_O.cell 0
  have l_10_O := k_10_O.lt
  have o_10_C : OwnC w_10 g_2 (4) c_2 (xs.set t (x + g)) := OwnC.step (by (with_reducible (repeat (first | assumption | apply OwnC.drewN | apply OwnC.drew | apply OwnC.alloc)))) hb_10
  clear i_9 o_9_C z_9_R_0 hb_9 k_9_A c_9_A_0 l_9_A k_9_R c_9_R_0 l_9_R k_9_O c_9_O_0 l_9_O
  rw [h5]
  by_cases h4 : x + g ≤ 1000000
  · have HV := Lib.hid (hF4 h4)
    have HL := Lib.hid (hF6 HV.out)
    rw [decide_eq_true h4]
    clear hF4 hF5 hF6 h5
    have HO : Hid (OwnC (w_10.setCell ⟨b_R, 0, none⟩ (.slice (some ⟨g_2, 0, none⟩) (4) c_2)) g_2 (4) c_2 (xs.set t (x + g))) := Lib.hid (OwnC.far (by (with_reducible (repeat (first | assumption | apply OwnC.drewN | apply OwnC.drew | apply OwnC.alloc)))) (show Blk w_10 b_R 27 #[.slice none 0 0] from k_10_R) (by decide) (only_set _ _))
    have i9 : In w.heap.size w (w_10.setCell ⟨b_R, 0, none⟩ (.slice (some ⟨g_2, 0, none⟩) (4) c_2)) := In.set_ i_10 (p := ⟨b_R, 0, none⟩) hwb_R _
    have HK : Hid ((w_10.setCell ⟨b_R, 0, none⟩ (.slice (some ⟨g_2, 0, none⟩) (4) c_2)).cell? ⟨b_R, 0, none⟩ = some (.slice (some ⟨g_2, 0, none⟩) (4) c_2)) := Lib.hid (by
      have h := (k_10_R.set_ 0 (.slice (some ⟨g_2, 0, none⟩) (4) c_2)).cell 0
      simpa using h)
    have hzr := k_10_R.frozen 0
    clear i_10 o_10_C hb_10
    go_wp2_with (first | (go_at_call 36; refine (sIn _ _ _ _).mono ?_; rintro e w' ⟨rfl, rfl⟩) | (go_at_call 48; refine (iIn _ _ _ _).mono ?_; rintro e w' ⟨rfl, rfl⟩))
    have hk := HK.out
    exact bodyPost_ret (v := .tuple #[.agg #[.slice (some ⟨g_2, 0, none⟩) (4) c_2], .bool true]) (by simp [results, Try.results24, go_sem, hk]) rfl (by rw [HV.out, HL.out]; exact rowStV_of (by simp [hlen]) HO.out GX_C.out i9.below)
  · have hv := hF5 (by omega)
    rw [decide_eq_false h4]
    clear hF4 hF5 hF6 h5
    have HV : Hid (fsB 4 xs (t : Int) g = false) := Lib.hid (by exact hv)
    have HL : Hid (FillStockL 4 xs (t : Int) g = xs) := Lib.hid (by simp [FillStockL, HV.out])
    go_wp2_with (first | (go_at_call 36; refine (sIn _ _ _ _).mono ?_; rintro e w' ⟨rfl, rfl⟩) | (go_at_call 48; refine (iIn _ _ _ _).mono ?_; rintro e w' ⟨rfl, rfl⟩))
    refine (icopied ad 4 cap xs _ (by omega) (HX.out.below (In.below (by (repeat (first | exact In.refl _ | assumption | apply In.alloc | apply In.drewN | apply In.drew | (refine In.step ?_ (by assumption)))))) (Nat.le_refl _))).mono ?_
    rintro _ w_11 ⟨g_11, c_11, rfl, ho_11, hg_11, hb_11⟩
    rw [hlen] at ho_11
    rw [hlen]
    have NE_C_Z : Hid (g_2 ≠ g_11) := Lib.hid (by have h1 := hg_11; (try simp at h1); have h2 := OwnC.lt o_10_C; omega)
    have GX_Z : Hid (w.heap.size ≤ g_11) := Lib.hid (by have h1 := hg_11; (try simp at h1); have h2 := In.size i_10; omega)
    have o_11_Z : OwnC w_11 g_11 (4) c_11 xs := ho_11
    clear ho_11 hg_11
    have i_11 : In w.heap.size w w_11 := In.step (by (repeat (first | exact In.refl _ | assumption | apply In.alloc | apply In.drewN | apply In.drew | (refine In.step ?_ (by assumption))))) hb_11
    have k_11_A : Blk w_11 b_A 27 #[.slice (some ad) 4 cap] := Blk.step (by (with_reducible (repeat (first | assumption | exact Blk.new' (by simp) | apply Blk.drewN | apply Blk.drew | apply Blk.alloc | (refine Blk.far ?_ (by (try simp) <;> omega) _))))) hb_11
    have c_11_A_0 : w_11.cell? ⟨b_A, 0, none⟩ = some (.slice (some ad) 4 cap) := k_11_A.cell 0
    have l_11_A := k_11_A.lt
    have k_11_R : Blk w_11 b_R 27 #[.slice none 0 0] := Blk.step (by (with_reducible (repeat (first | assumption | exact Blk.new' (by simp) | apply Blk.drewN | apply Blk.drew | apply Blk.alloc | (refine Blk.far ?_ (by (try simp) <;> omega) _))))) hb_11
    have c_11_R_0 : w_11.cell? ⟨b_R, 0, none⟩ = some (.slice none 0 0) := k_11_R.cell 0
    have l_11_R := k_11_R.lt
    have z_11_R_0 := k_11_R.frozen 0
    have k_11_O : Blk w_11 b_O 27 #[.slice (some ⟨g_2, 0, none⟩) 4 c_2] := Blk.step (by (with_reducible (repeat (first | assumption | exact Blk.new' (by simp) | apply Blk.drewN | apply Blk.drew | apply Blk.alloc | (refine Blk.far ?_ (by (try simp) <;> omega) _))))) hb_11
    have c_11_O_0 : w_11.cell? ⟨b_O, 0, none⟩ = some (.slice (some ⟨g_2, 0, none⟩) 4 c_2) := k_11_O.cell 0
    have l_11_O := k_11_O.lt
    have o_11_C : OwnC w_11 g_2 (4) c_2 (xs.set t (x + g)) := OwnC.step (by (with_reducible (repeat (first | assumption | apply OwnC.drewN | apply OwnC.drew | apply OwnC.alloc)))) hb_11
    clear i_10 k_10_A c_10_A_0 l_10_A k_10_R c_10_R_0 l_10_R z_10_R_0 k_10_O c_10_O_0 l_10_O o_10_C hb_10
    have HO : Hid (OwnC (w_11.setCell ⟨b_R, 0, none⟩ (.slice (some ⟨g_11, 0, none⟩) (4) c_11)) g_11 (4) c_11 xs) := Lib.hid (OwnC.far (by (with_reducible (repeat (first | assumption | apply OwnC.drewN | apply OwnC.drew | apply OwnC.alloc)))) (show Blk w_11 b_R 27 #[.slice none 0 0] from k_11_R) (by decide) (only_set _ _))
    have i9 : In w.heap.size w (w_11.setCell ⟨b_R, 0, none⟩ (.slice (some ⟨g_11, 0, none⟩) (4) c_11)) := In.set_ i_11 (p := ⟨b_R, 0, none⟩) hwb_R _
    have HK : Hid ((w_11.setCell ⟨b_R, 0, none⟩ (.slice (some ⟨g_11, 0, none⟩) (4) c_11)).cell? ⟨b_R, 0, none⟩ = some (.slice (some ⟨g_11, 0, none⟩) (4) c_11)) := Lib.hid (by
      have h := (k_11_R.set_ 0 (.slice (some ⟨g_11, 0, none⟩) (4) c_11)).cell 0
      simpa using h)
    have hzr := k_11_R.frozen 0
    clear i_11 o_11_C o_11_Z hb_11
    go_wp2_with (first | (go_at_call 36; refine (sIn _ _ _ _).mono ?_; rintro e w' ⟨rfl, rfl⟩) | (go_at_call 48; refine (iIn _ _ _ _).mono ?_; rintro e w' ⟨rfl, rfl⟩))
    have hk := HK.out
    exact bodyPost_ret (v := .tuple #[.agg #[.slice (some ⟨g_11, 0, none⟩) (4) c_11], .bool false]) (by simp [results, Try.results24, go_sem, hk]) rfl (by rw [HV.out, HL.out]; exact rowStV_of hlen HO.out GX_Z.out i9.below)
end Go.Proofs.Ythadanmiomeehaa
