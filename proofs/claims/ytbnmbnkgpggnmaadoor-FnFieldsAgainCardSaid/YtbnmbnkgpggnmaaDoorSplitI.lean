import Derived.Test.YtbnmbnkgpggnmaaDoorSplitS
import Derived.Test.YtbnmbnkgpggnmaaDoorShelfClone
namespace Go.Proofs.YtbnmbnkgpggnmaaDoor
open Go.ChangeShapes Go.WideShapes Go.ChangeAt Go.RowKit
set_option linter.unusedVariables false

/-- what addField leaves -/
def Added (base : Nat) (xs : List ByteArray) (w : World) (e : Ending) (w' : World) : Prop :=
  ∃ (A : Option Addr) (c : Nat), e = .returned (.slice A xs.length c) ∧ w'.ownsRow base 9 1 (.slice A xs.length c) xs.length (sv xs) ∧ Below base w w'

set_option maxHeartbeats 1000000 in
theorem addField_c (A : Option Addr) (c base : Nat) (fs : List ByteArray) (f : ByteArray) (w : World) (hl : (fs.length : Int) ≤ 100000) (hf : (f.size : Int) ≤ 100000) (hB : base ≤ w.heap.size) (hown : w.ownsRow base 9 1 (.slice A fs.length c) fs.length (sv fs)) :
    Calls Tryd.prog 39 #[.slice A fs.length c, .string f] w (Added base (addF fs f) w) := by
  obtain ⟨i0, hi0, hz0, hz1, hz2⟩ := info_parts infoS
  have hl2 : f.toList = f.data.toList := ByteArray.toList_eq f
  by_cases h0 : f.size = 0
  · have he : addF fs f = fs := by unfold addF; rw [if_pos h0]
    have hd : f.data.toList = [] := List.eq_nil_of_length_eq_zero (by simpa using h0)
    have h1 : f.toList = [] := by rw [hl2, hd]
    have h2 : f.toList.isEmpty = true := by rw [h1]; rfl
    rw [he]
    have H2 := Lib.hid hl2
    have HD := Lib.hid hd
    clear hl2 hd he h0
    go_enter Tryd.func39, Tryd.ntmps39
    go_wp2_with fail
    go_ret
    exact ⟨A, c, rfl, hown, Below.refl _ _⟩
  · have he : addF fs f = fs ++ [f] := by unfold addF; rw [if_neg h0]
    have h1 : f.toList.isEmpty = false := by
      rw [hl2]
      cases hx : f.data.toList with
      | nil => exact absurd (by have := congrArg List.length hx; simpa using this) h0
      | cons a l => rfl
    rw [he]
    have C : ∀ W, Calls Tryd.prog 53 #[.string f] W fun e w' => e = .returned (.string f) ∧ Below W.heap.size W w' := fun W => Tryd.stringslite_Clone f W (by omega)
    have HCl := Lib.hid C
    have f2 : fs.length + 1 ≤ maxLen := by unfold maxLen; omega
    have f3 : (fs.length + 1) * 16 ≤ 140737488355328 := by omega
    have F1 := Lib.hid (one_str f)
    have H2 := Lib.hid hl2
    clear C hl2 he h0
    go_enter Tryd.func39, Tryd.ntmps39
    go_wp2_with (first
      | (go_at_call 47; go_in)
      | (go_at_call 53; refine (HCl.out _).mono ?_; rintro e w1 ⟨rfl, hb1⟩; have hown1 := own_below hown hb1 (Nat.le_refl _); have hB1 := Nat.le_trans hB hb1.size)
      | (at_builtin; refine wpList_app w1 rfl (.tmp 8) (.tmp 11) 31 rfl base 9 i0 (.string ByteArray.empty) 1 16 Tryd.underlying31 hi0 hz0 hz1 hz2 rfl Nat.one_pos (.slice A fs.length c) fs.length (sv fs) rfl hown1 1 #[.string f] rfl rfl F1.out f2 f3 hB1 ?_; intro v2 w2 hown2 hbw2))
    go_ret
    obtain ⟨A2, c2, rfl⟩ := own_shape hown2
    refine ⟨A2, c2, by simp, ?_, (hb1.mono hB).trans hbw2⟩
    rw [sv_app, List.length_append]; exact hown2

/-- what scanFields answers: the row, and how far it read -/
def Scanned (s : ByteArray) (w : World) (e : Ending) (w' : World) : Prop :=
  ∃ (A : Option Addr) (c k : Nat) (xs : List ByteArray), e = .returned (.tuple #[.slice A xs.length c, .int .i64 k]) ∧ w'.ownsRow w.heap.size 9 1 (.slice A xs.length c) xs.length (sv xs) ∧ Below w.heap.size w w' ∧
    ((k = s.size ∧ xs = fields s ∧ ∀ i, i < s.size → ¬ bad (chr s i)) ∨ (k < s.size ∧ bad (chr s k))) ∧ (xs.length : Int) ≤ 100000

set_option maxHeartbeats 2000000 in
theorem scan_c (s : ByteArray) (w : World) (h : (s.size : Int) ≤ 600) :
    Calls Tryd.prog 31 #[.string s] w (Scanned s w) := by
  go_enter Tryd.func31, Tryd.ntmps31
  go_wp2
  go_step3
  go_wp2
  go_step3
  go_wp2
  go_loopw [4, 5, 6] (fun v st i wr => ∃ (k : Nat) (fs : List ByteArray) (bg : Nat) (A : Option Addr) (c : Nat), k ≤ s.size ∧ i = .int .i64 k ∧ (∀ t, t < k → ¬ bad (chr s t)) ∧ stF s k = (fs, bg) ∧ st = .int .i64 bg ∧ v = .slice A fs.length c ∧
      wr.ownsRow w.heap.size 9 1 (.slice A fs.length c) fs.length (sv fs) ∧ Below w.heap.size w wr) (fun _ _ i _ => s.size - (intOf i).toNat)
  case atStart => exact ⟨0, [], 0, none, 0, Nat.zero_le _, rfl, fun t ht => absurd ht (Nat.not_lt_zero _), rfl, rfl, rfl, World.ownsRow_nil _ _ _ _, Below.refl _ _⟩
  case round =>
    obtain ⟨k, fs, bg, A, c, hk, rfl, hok, hst, rfl, rfl, hown, hb⟩ := hrel
    have hbg := stF_le s k
    rw [hst] at hbg
    obtain ⟨hbg, hfl⟩ := hbg
    simp only at hbg hfl
    have HOK := Lib.hid hok
    have HST := Lib.hid hst
    clear hok hst
    have hB := hb.size
    have hes := ext_size s bg k hk
    have CA := fun W (hW : W.ownsRow w.heap.size 9 1 (.slice A fs.length c) fs.length (sv fs)) (hWB : w.heap.size ≤ W.heap.size) => addField_c A c w.heap.size fs (s.extract bg k) W (by omega) (by rw [hes]; omega) hWB hW
    have HCA := Lib.hid CA
    clear CA hes
    by_cases hlt : k < s.size
    · have hc := chr_get s k hlt
      have HC := Lib.hid hc
      clear hc
      have hcl := UInt8.toNat_lt s[k]
      by_cases hbd : (s[k].toNat : Int) < 32 ∨ (126 : Int) < (s[k].toNat : Int)
      · have hbad : bad (chr s k) := by rw [HC.out]; unfold bad; omega
        have HBD := Lib.hid hbad
        clear hbad
        have hal := addF_len fs (s.extract bg k)
        rcases hbd with hbd | hbd
        · go_wp2_with (go_at_call 39; refine (HCA.out _ hown hB).mono ?_; rintro e w2 ⟨A2, c2, rfl, hown2, hb2⟩)
          rw [Exit.noGoto_ret]
          go_ret2
          exact ⟨A2, c2, k, _, rfl, hown2, hb.trans hb2, .inr ⟨hlt, HBD.out⟩, by omega⟩
        · go_wp2_with (go_at_call 39; refine (HCA.out _ hown hB).mono ?_; rintro e w2 ⟨A2, c2, rfl, hown2, hb2⟩)
          rw [Exit.noGoto_ret]
          go_ret2
          exact ⟨A2, c2, k, _, rfl, hown2, hb.trans hb2, .inr ⟨hlt, HBD.out⟩, by omega⟩
      · have hl1 : 32 ≤ (s[k].toNat : Int) := by omega
        have hl2 : (s[k].toNat : Int) ≤ 126 := by omega
        have hok2 : ∀ t, t < k + 1 → ¬ bad (chr s t) := fun t ht => by
          by_cases e : t = k
          · subst e; rw [HC.out]; unfold bad; omega
          · exact HOK.out t (by omega)
        have HOK2 := Lib.hid hok2
        clear hok2 hbd
        by_cases hsp : (s[k].toNat : Int) = 32
        · have hsp8 : chr s k = 32 := by rw [HC.out]; apply UInt8.toNat_inj.1; show s[k].toNat = 32; omega
          have hst2 := stF_space s k hsp8
          rw [HST.out] at hst2
          simp only at hst2
          have HS2 := Lib.hid hst2
          have hsb : ((s[k].toNat : Int) == 32) = true := by simp; omega
          clear hst2 hsp8
          have HSP := Lib.hid hsp
          clear hsp hl1 hl2
          have hg1 : ¬ ((s[k].toNat : Int) < 32) := by have := HSP.out; omega
          have hg2 : ¬ ((126 : Int) < (s[k].toNat : Int)) := by have := HSP.out; omega
          go_wp2_with (go_at_call 39; refine (HCA.out _ hown hB).mono ?_; rintro e w2 ⟨A2, c2, rfl, hown2, hb2⟩)
          have hb3 := hb.trans hb2
          clear hb2 hown hb hsb hg1 hg2
          go_roundw
          case rel => exact ⟨k + 1, _, k + 1, A2, c2, by omega, by go_num, HOK2.out, HS2.out, by go_num, rfl, hown2, hb3⟩
          case measure => simp [intOf]; omega
        · have hsp8 : chr s k ≠ 32 := by rw [HC.out]; intro e; apply hsp; rw [e]; rfl
          have hst2 := stF_other s k hsp8
          rw [HST.out] at hst2
          have HS2 := Lib.hid hst2
          have hsb : ((s[k].toNat : Int) == 32) = false := by simp; omega
          clear hst2 hsp8 hsp
          go_wp2_with fail
          clear hsb
          go_roundw
          case rel => exact ⟨k + 1, fs, bg, A, c, by omega, by go_num, HOK2.out, HS2.out, rfl, rfl, hown, hb⟩
          case measure => simp [intOf]; omega
    · obtain rfl : k = s.size := by omega
      have hfe : fields s = addF fs (s.extract bg s.size) := by unfold fields; rw [HST.out]
      have HFE := Lib.hid hfe
      clear hfe
      have hal := addF_len fs (s.extract bg s.size)
      go_wp2_with (go_at_call 39; refine (HCA.out _ hown hB).mono ?_; rintro e w2 ⟨A2, c2, rfl, hown2, hb2⟩)
      rw [Exit.noGoto_ret]
      go_ret2
      exact ⟨A2, c2, s.size, _, rfl, hown2, hb.trans hb2, .inl ⟨rfl, HFE.out.symm, HOK.out⟩, by omega⟩

theorem implSplit_long (s : ByteArray) (w : World) (hs : s.size ≤ maxLen) (h : (600 : Int) < s.size) :
    Calls Tryd.prog 16 #[.string s] w (Fielded [] false w) := by
  unfold maxLen at hs
  go_enter Tryd.func16, Tryd.ntmps16
  go_wp2
  go_ret2
  exact ⟨none, 0, rfl, World.ownsRow_nil _ _ _ _, Below.refl _ _⟩

set_option maxHeartbeats 1000000 in
theorem implSplit (s : ByteArray) (w : World) (h : (s.size : Int) ≤ 600) (xs : List ByteArray) (b : Bool)
    (hgood : (∀ i, i < s.size → ¬ bad (chr s i)) → (fields s).length ≤ 24 → xs = fields s ∧ b = true)
    (hbad : ((∃ i, i < s.size ∧ bad (chr s i)) ∨ 24 < (fields s).length) → xs = [] ∧ b = false) :
    Calls Tryd.prog 16 #[.string s] w (Fielded xs b w) := by
  have HG := Lib.hid hgood
  have HB := Lib.hid hbad
  clear hgood hbad
  go_enter Tryd.func16, Tryd.ntmps16
  go_wp2_with fail
  refine (scan_c s _ h).mono ?_
  rintro e w1 ⟨A, c, k, ys, rfl, hown, hb, hcase, hyl⟩
  rcases hcase with ⟨hk, hys, hok⟩ | ⟨hk, hbd⟩
  · have HYS := Lib.hid hys
    have HK := Lib.hid hok
    subst hk
    clear hys hok
    by_cases h24 : (24 : Int) < (ys.length : Int)
    · have HR := Lib.hid (HB.out (.inr (by rw [← HYS.out]; omega)))
      go_wp2_with fail
      go_ret2
      obtain ⟨rfl, rfl⟩ := HR.out
      exact ⟨none, 0, rfl, World.ownsRow_nil _ _ _ _, hb⟩
    · have HR := Lib.hid (HG.out HK.out (by rw [← HYS.out]; omega))
      go_wp2_with fail
      go_ret2
      obtain ⟨h1, rfl⟩ := HR.out
      rw [← HYS.out] at h1
      subst h1
      exact ⟨A, c, rfl, hown, hb⟩
  · have HR := Lib.hid (HB.out (.inl ⟨k, hk, hbd⟩))
    clear hbd
    go_wp2_with fail
    go_ret2
    obtain ⟨rfl, rfl⟩ := HR.out
    exact ⟨none, 0, rfl, World.ownsRow_nil _ _ _ _, hb⟩
end Go.Proofs.YtbnmbnkgpggnmaaDoor
