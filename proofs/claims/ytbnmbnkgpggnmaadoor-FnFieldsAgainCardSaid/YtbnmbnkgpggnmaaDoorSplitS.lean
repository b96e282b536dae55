import Derived.Test.YtbnmbnkgpggnmaaDoorSplit
namespace Go.Proofs.YtbnmbnkgpggnmaaDoor
open Go.ChangeShapes Go.WideShapes Go.ChangeAt Go.RowKit
set_option linter.unusedVariables false

/-- what SplitFields answers: the flag, and a row of its own that holds these strings -/
def Fielded (xs : List ByteArray) (b : Bool) (w : World) (e : Ending) (w' : World) : Prop :=
  ∃ (A : Option Addr) (c : Nat), e = .returned (.tuple #[.slice A xs.length c, .bool b]) ∧ w'.ownsRow w.heap.size 9 1 (.slice A xs.length c) xs.length (sv xs) ∧ Below w.heap.size w w'

theorem own_shape {w : World} {base n : Nat} {e : TypeId} {v : Value} {xs : List Value} (h : w.ownsRow base e 1 v n xs) : ∃ A c, v = .slice A n c := by
  rcases h.2 with ⟨rfl, rfl⟩ | ⟨g, cap, cur, rfl, _⟩
  · exact ⟨_, _, rfl⟩
  · exact ⟨_, _, rfl⟩

set_option maxHeartbeats 1000000 in
theorem specSplit_long (s : ByteArray) (w : World) (hs : s.size ≤ maxLen) (h : (600 : Int) < s.size) :
    Calls Tryd.prog 17 #[.string s] w (Fielded [] false w) := by
  unfold maxLen at hs
  have hown0 := own_new w 9 w.heap.size (Nat.le_refl _)
  have hb0 : Below w.heap.size w (w.alloc (.cells #[] 9)) := (Below.refl _ _).alloc (Nat.le_refl _) _
  go_enter Tryd.func17, Tryd.ntmps17
  go_wp2
  go_ret2
  exact ⟨_, _, rfl, hown0, hb0⟩

set_option maxHeartbeats 2000000 in
theorem specSplit (s : ByteArray) (w : World) (h : (s.size : Int) ≤ 600) (xs : List ByteArray) (b : Bool)
    (hgood : (∀ i, i < s.size → ¬ bad (chr s i)) → (fields s).length ≤ 24 → xs = fields s ∧ b = true)
    (hbad : ((∃ i, i < s.size ∧ bad (chr s i)) ∨ 24 < (fields s).length) → xs = [] ∧ b = false) :
    Calls Tryd.prog 17 #[.string s] w (Fielded xs b w) := by
  obtain ⟨i0, hi0, hz0, hz1, hz2⟩ := info_parts infoS
  have HG := Lib.hid hgood
  have HB := Lib.hid hbad
  clear hgood hbad
  have hown0 := own_new w 9 w.heap.size (Nat.le_refl _)
  have hb0 : Below w.heap.size w (w.alloc (.cells #[] 9)) := (Below.refl _ _).alloc (Nat.le_refl _) _
  go_enter Tryd.func17, Tryd.ntmps17
  go_wp2
  go_loopw [4, 5, 6] (fun v st i wr => ∃ k : Nat, k ≤ s.size + 1 ∧ i = .int .i64 k ∧ (∀ t, t < k → t < s.size → ¬ bad (chr s t)) ∧
      ∃ (fs : List ByteArray) (bg : Nat), ((k ≤ s.size ∧ stF s k = (fs, bg)) ∨ (k = s.size + 1 ∧ fs = fields s)) ∧ st = .int .i64 bg ∧ wr.ownsRow w.heap.size 9 1 v fs.length (sv fs) ∧ Below w.heap.size w wr) (fun _ _ i _ => s.size + 1 - (intOf i).toNat)
  case atStart => exact ⟨0, Nat.zero_le _, rfl, fun t ht => absurd ht (Nat.not_lt_zero _), [], 0, .inl ⟨Nat.zero_le _, rfl⟩, rfl, hown0, hb0⟩
  case round =>
    clear hown0 hb0
    obtain ⟨k, hk, rfl, hok, fs, bg, hst, rfl, hown, hb⟩ := hrel
    have HOK := Lib.hid hok
    have HST := Lib.hid hst
    clear hok hst
    have hB := hb.size
    obtain ⟨A, c, rfl⟩ := own_shape hown
    by_cases hle : k ≤ s.size
    · have hst : stF s k = (fs, bg) := by
        rcases HST.out with h | h
        · exact h.2
        · omega
      have hbg := stF_le s k
      rw [hst] at hbg
      obtain ⟨hbg, hfl⟩ := hbg
      simp only at hbg hfl
      have HST2 := Lib.hid hst
      clear hst
      have f2 : fs.length + 1 ≤ maxLen := by unfold maxLen; omega
      have f3 : (fs.length + 1) * 16 ≤ 140737488355328 := by omega
      have F1 := Lib.hid (one_str (s.extract bg k))
      by_cases hlt : k < s.size
      · have hc := chr_get s k hlt
        have HC := Lib.hid hc
        clear hc
        have hcl := UInt8.toNat_lt s[k]
        by_cases hc1 : (s[k].toNat : Int) < 32
        · have hres := HB.out (.inl ⟨k, hlt, by unfold bad; rw [HC.out]; omega⟩)
          have HR := Lib.hid hres
          clear hres
          have hown2 := own_new wr 9 w.heap.size hB
          go_wp2
          go_ret2
          obtain ⟨rfl, rfl⟩ := HR.out
          exact ⟨_, _, rfl, hown2, hb.alloc hB _⟩
        · by_cases hc2 : (126 : Int) < (s[k].toNat : Int)
          · have hres := HB.out (.inl ⟨k, hlt, by unfold bad; rw [HC.out]; omega⟩)
            have HR := Lib.hid hres
            clear hres
            have hown2 := own_new wr 9 w.heap.size hB
            go_wp2
            go_ret2
            obtain ⟨rfl, rfl⟩ := HR.out
            exact ⟨_, _, rfl, hown2, hb.alloc hB _⟩
          · have hok2 : ∀ t, t < k + 1 → t < s.size → ¬ bad (chr s t) := fun t ht hts => by
              by_cases e : t = k
              · subst e; rw [HC.out]; unfold bad; omega
              · exact HOK.out t (by omega) hts
            have HOK2 := Lib.hid hok2
            clear hok2
            by_cases hsp : (s[k].toNat : Int) = 32
            · have hsp8 : chr s k = 32 := by rw [HC.out]; apply UInt8.toNat_inj.1; show s[k].toNat = 32; omega
              have hst2 := stF_space s k hsp8
              rw [HST2.out] at hst2
              simp only at hst2
              have HS2 := Lib.hid hst2
              have hsb : ((s[k].toNat : Int) != 32) = false := by simp; omega
              clear hst2 hsp8
              have HSP := Lib.hid hsp
              clear hsp
              by_cases hbk : bg < k
              · go_wp2_with (at_builtin; refine wpList_app wr rfl (.tmp 48) (.tmp 53) 31 rfl w.heap.size 9 i0 (.string ByteArray.empty) 1 16 Tryd.underlying31 hi0 hz0 hz1 hz2 rfl Nat.one_pos (.slice A fs.length c) fs.length (sv fs) rfl hown 1 #[.string (s.extract bg k)] rfl rfl F1.out f2 f3 hB ?_; intro v2 w2 hown2 hbw2)
                have hown3 : w2.ownsRow w.heap.size 9 1 v2 (fs ++ [s.extract bg k]).length (sv (fs ++ [s.extract bg k])) := by rw [sv_app, List.length_append]; exact hown2
                have hb3 := hb.trans hbw2
                have he : stF s (k + 1) = (fs ++ [s.extract bg k], k + 1) := by rw [HS2.out, addF_more fs s bg k hle hbk]
                have HE := Lib.hid he
                clear he hown2 hbw2 hown hb hsb
                go_wp2
                go_roundw
                case rel => exact ⟨k + 1, by omega, by go_num, HOK2.out, _, k + 1, .inl ⟨by omega, HE.out⟩, by go_num, hown3, hb3⟩
                case measure => simp [intOf]; omega
              · have he : stF s (k + 1) = (fs, k + 1) := by rw [HS2.out, addF_empty fs s bg k hle hbk]
                have HE := Lib.hid he
                clear he
                go_wp2
                clear hsb
                go_roundw
                case rel => exact ⟨k + 1, by omega, by go_num, HOK2.out, fs, k + 1, .inl ⟨by omega, HE.out⟩, by go_num, hown, hb⟩
                case measure => simp [intOf]; omega
            · have hsp8 : chr s k ≠ 32 := by rw [HC.out]; intro e; apply hsp; rw [e]; rfl
              have hst2 := stF_other s k hsp8
              rw [HST2.out] at hst2
              have HS2 := Lib.hid hst2
              have hsb : ((s[k].toNat : Int) != 32) = true := by simp; omega
              clear hst2 hsp8 hsp
              go_wp2
              clear hsb
              go_roundw
              case rel => exact ⟨k + 1, by omega, by go_num, HOK2.out, fs, bg, .inl ⟨by omega, HS2.out⟩, rfl, hown, hb⟩
              case measure => simp [intOf]; omega
      · obtain rfl : k = s.size := by omega
        have hok2 : ∀ t, t < s.size + 1 → t < s.size → ¬ bad (chr s t) := fun t ht hts => HOK.out t (by omega) hts
        have HOK2 := Lib.hid hok2
        clear hok2
        have hfe : fields s = addF fs (s.extract bg s.size) := by unfold fields; rw [HST2.out]
        have HFE := Lib.hid hfe
        clear hfe
        by_cases hbk : bg < s.size
        · go_wp2_with (at_builtin; refine wpList_app wr rfl (.tmp 48) (.tmp 53) 31 rfl w.heap.size 9 i0 (.string ByteArray.empty) 1 16 Tryd.underlying31 hi0 hz0 hz1 hz2 rfl Nat.one_pos (.slice A fs.length c) fs.length (sv fs) rfl hown 1 #[.string (s.extract bg s.size)] rfl rfl F1.out f2 f3 hB ?_; intro v2 w2 hown2 hbw2)
          have hown3 : w2.ownsRow w.heap.size 9 1 v2 (fs ++ [s.extract bg s.size]).length (sv (fs ++ [s.extract bg s.size])) := by rw [sv_app, List.length_append]; exact hown2
          have hb3 := hb.trans hbw2
          have he : fs ++ [s.extract bg s.size] = fields s := by rw [HFE.out, addF_more fs s bg s.size hle hbk]
          have HE := Lib.hid he
          clear he hown2 hbw2 hown hb
          go_wp2
          go_roundw
          case rel => exact ⟨s.size + 1, by omega, by go_num, HOK2.out, _, s.size + 1, .inr ⟨rfl, HE.out⟩, by go_num, hown3, hb3⟩
          case measure => simp [intOf]
        · have he : fs = fields s := by rw [HFE.out, addF_empty fs s bg s.size hle hbk]
          have HE := Lib.hid he
          clear he
          go_wp2
          go_roundw
          case rel => exact ⟨s.size + 1, by omega, by go_num, HOK2.out, fs, s.size + 1, .inr ⟨rfl, HE.out⟩, by go_num, hown, hb⟩
          case measure => simp [intOf]
    · obtain rfl : k = s.size + 1 := by omega
      have hfs : fs = fields s := by
        rcases HST.out with h | h
        · omega
        · exact h.2
      have HFS := Lib.hid hfs
      clear hfs
      by_cases h24 : (24 : Int) < (fs.length : Int)
      · have hres := HB.out (.inr (by rw [← HFS.out]; omega))
        have HR := Lib.hid hres
        clear hres
        have hown2 := own_new wr 9 w.heap.size hB
        go_wp2
        go_ret2
        obtain ⟨rfl, rfl⟩ := HR.out
        exact ⟨_, _, rfl, hown2, hb.alloc hB _⟩
      · have hres := HG.out (fun i hi => HOK.out i (by omega) hi) (by rw [← HFS.out]; omega)
        have HR := Lib.hid hres
        clear hres
        go_wp2
        go_ret2
        obtain ⟨h1, rfl⟩ := HR.out
        rw [← HFS.out] at h1
        subst h1
        exact ⟨_, _, rfl, hown, hb⟩
end Go.Proofs.YtbnmbnkgpggnmaaDoor
