/-
  CONTRACTS OF THE REFERENCE's lexer, I: bytes, runs, remarks, what is skipped, signs.
-/
import Derived.Test.YtkogfdbmgdajdaaDoorLexF
namespace Go.Proofs.YtkogfdbmgdajdaaDoor
open Go.ChangeShapes Go.WideShapes Go.ChangeAt Go.RowKit
set_option linter.unusedVariables false
def sm (c : Nat) : Bool := decide (97 ≤ c) && decide (c ≤ 122)
def gr (c : Nat) : Bool := decide (65 ≤ c) && decide (c ≤ 90)
theorem lt_sm (c : Nat) : lt c = (sm c || gr c || decide (c = 95)) := rfl
theorem rdigit_any (c : Nat) (hc : c < 256) (w : World) : Calls Tryd.prog 37 #[.int .u8 c] w fun e w' => e = .returned (.bool (dg c)) ∧ w = w' := by
  go_enter Tryd.func37, Tryd.ntmps37
  go_wp2
  all_goals go_ret
  all_goals refine ⟨ret_bool ?_, rfl⟩
  all_goals (rw [Bool.eq_iff_iff]; simp [dg]; try omega)
theorem rsmall_any (c : Nat) (hc : c < 256) (w : World) : Calls Tryd.prog 46 #[.int .u8 c] w fun e w' => e = .returned (.bool (sm c)) ∧ w = w' := by
  go_enter Tryd.func46, Tryd.ntmps46
  go_wp2
  all_goals go_ret
  all_goals refine ⟨ret_bool ?_, rfl⟩
  all_goals (rw [Bool.eq_iff_iff]; simp [sm]; try omega)
theorem rgreat_any (c : Nat) (hc : c < 256) (w : World) : Calls Tryd.prog 47 #[.int .u8 c] w fun e w' => e = .returned (.bool (gr c)) ∧ w = w' := by
  go_enter Tryd.func47, Tryd.ntmps47
  go_wp2
  all_goals go_ret
  all_goals refine ⟨ret_bool ?_, rfl⟩
  all_goals (rw [Bool.eq_iff_iff]; simp [gr]; try omega)
theorem rblank_any (c : Nat) (hc : c < 256) (w : World) : Calls Tryd.prog 34 #[.int .u8 c] w fun e w' => e = .returned (.bool (bl c)) ∧ w = w' := by
  have e : bl c = ((c : Int) == 32 || (c : Int) == 9 || (c : Int) == 10 || (c : Int) == 13) := by
    rw [Bool.eq_iff_iff, bl_iff]; simp; omega
  have H := Lib.hid e
  clear e
  go_enter Tryd.func34, Tryd.ntmps34
  go_wp2
  all_goals go_ret
  all_goals refine ⟨ret_bool ?_, rfl⟩
  all_goals rw [H.out]
  all_goals simp_all
theorem rdigit_is (c : Nat) (hc : c < 256) (b : Bool) (h : dg c = b) (w : World) : Calls Tryd.prog 37 #[.int .u8 c] w fun e w' => e = .returned (.bool b) ∧ w = w' := by subst h; exact rdigit_any c hc w
theorem rsmall_is (c : Nat) (hc : c < 256) (b : Bool) (h : sm c = b) (w : World) : Calls Tryd.prog 46 #[.int .u8 c] w fun e w' => e = .returned (.bool b) ∧ w = w' := by subst h; exact rsmall_any c hc w
theorem rgreat_is (c : Nat) (hc : c < 256) (b : Bool) (h : gr c = b) (w : World) : Calls Tryd.prog 47 #[.int .u8 c] w fun e w' => e = .returned (.bool b) ∧ w = w' := by subst h; exact rgreat_any c hc w
theorem rblank_is (c : Nat) (hc : c < 256) (b : Bool) (h : bl c = b) (w : World) : Calls Tryd.prog 34 #[.int .u8 c] w fun e w' => e = .returned (.bool b) ∧ w = w' := by subst h; exact rblank_any c hc w
theorem bytes_eq0 {a b : ByteArray} (h : a.data.toList = b.data.toList) : a = b := by
  apply ByteArray.ext
  exact Array.toList_inj.1 h
theorem ext_pre {s t : ByteArray} {a : Nat} (h : a + t.size ≤ s.size) : ((s.extract a (a + t.size)).toList == t.toList) = pre s a t.data.toList := by
  rw [ByteArray.toList_eq, ByteArray.toList_eq, Bool.eq_iff_iff, beq_iff_eq]
  constructor
  · intro he
    refine pre_iff.2 fun k hk => ?_
    rw [size_toList] at hk
    have e2 : s.extract a (a + t.size) = t := bytes_eq0 he
    have := bt_ext (s := s) (i := a) h k
    rw [e2, if_pos (by omega), bt_in hk] at this
    exact this.symm
  · intro hp
    have := pre_ext (by omega) hp
    rw [size_toList] at this
    rw [this]
theorem rhas_any (s t : ByteArray) (a : Nat) (ha : a ≤ s.size) (hs : s.size ≤ maxLen) (ht : t.size ≤ maxLen) (w : World) : Calls Tryd.prog 35 #[.string s, .int .i64 a, .string t] w fun e w' => e = .returned (.bool (pre s a t.data.toList)) ∧ w = w' := by
  unfold maxLen at hs ht
  by_cases h : a + t.size ≤ s.size
  · have HP := Lib.hid (ext_pre h)
    have h1 : (t.size : Int) ≤ (s.size : Int) - a := by omega
    go_enter Tryd.func35, Tryd.ntmps35
    go_wp2
    go_ret
    exact ⟨ret_bool HP.out, rfl⟩
  · have HP : Hid (pre s a t.data.toList = false) := Lib.hid (by
      refine Bool.eq_false_iff.2 fun hp => ?_
      have := pre_size ha hp
      rw [size_toList] at this
      omega)
    have h1 : ¬ (t.size : Int) ≤ (s.size : Int) - a := by omega
    go_enter Tryd.func35, Tryd.ntmps35
    go_wp2
    go_ret
    exact ⟨ret_bool HP.out.symm, rfl⟩
theorem rhas_is (s t : ByteArray) (a : Nat) (ha : a ≤ s.size) (hs : s.size ≤ maxLen) (ht : t.size ≤ maxLen) (b : Bool) (hb : pre s a t.data.toList = b) (w : World) : Calls Tryd.prog 35 #[.string s, .int .i64 a, .string t] w fun e w' => e = .returned (.bool b) ∧ w = w' := by
  subst hb; exact rhas_any s t a ha hs ht w
theorem rhas_mk (s : ByteArray) (a : Nat) (ha : a ≤ s.size) (hs : s.size ≤ maxLen) (l : List UInt8) (hl : l.length ≤ 2) (b : Bool) (hb : pre s a l = b) (w : World) : Calls Tryd.prog 35 #[.string s, .int .i64 a, .string (mkS l)] w fun e w' => e = .returned (.bool b) ∧ w = w' := by
  subst hb
  exact rhas_any s (mkS l) a ha hs (by rw [mkS_size]; unfold maxLen; omega) w
theorem rhas_open (s : ByteArray) (a : Nat) (ha : a ≤ s.size) (hs : s.size ≤ maxLen) (b : Bool) (hb : opens s a = b) (w : World) : Calls Tryd.prog 35 #[.string s, .int .i64 a, .string ⟨#[40, 42]⟩] w fun e w' => e = .returned (.bool b) ∧ w = w' := by
  refine rhas_mk s a ha hs [40, 42] (by decide) b ?_ w
  rw [← hb]
  show (decide (bt s a = 40) && (decide (bt s (a + 1) = 42) && true)) = _
  rw [Bool.and_true]; rfl
theorem rhas_shut (s : ByteArray) (a : Nat) (ha : a ≤ s.size) (hs : s.size ≤ maxLen) (b : Bool) (hb : shuts s a = b) (w : World) : Calls Tryd.prog 35 #[.string s, .int .i64 a, .string ⟨#[42, 41]⟩] w fun e w' => e = .returned (.bool b) ∧ w = w' := by
  refine rhas_mk s a ha hs [42, 41] (by decide) b ?_ w
  rw [← hb]
  show (decide (bt s a = 42) && (decide (bt s (a + 1) = 41) && true)) = _
  rw [Bool.and_true]; rfl

/-! ### Runs -/
/-- Where the run that begins at a ends; a: none begins there. -/
def rrun (s : ByteArray) (a : Nat) : Nat := if lt (bt s a) = true then rend wc s (a + 1) else a
/-- May the byte at k belong to a run that begins at a? -/
def rin (s : ByteArray) (a k : Nat) : Bool := if k = a then lt (bt s k) else wc (bt s k)
theorem rin_lt {s : ByteArray} {a k : Nat} (h : rin s a k = true) : k < s.size := by
  refine lt_of_bt ?_
  unfold rin at h
  split at h
  · have := lt_iff.1 h; omega
  · rcases wc_iff.1 h with h | h | h
    · have := dg_iff.1 h; omega
    · have := lt_iff.1 h; omega
    · omega
def runAt (s : ByteArray) (a k : Nat) : Nat := if k = a then rrun s a else rend wc s k
theorem runAt_next {s : ByteArray} {a k : Nat} (hk : a ≤ k) (h : rin s a k = true) : runAt s a (k + 1) = runAt s a k := by
  unfold rin at h
  unfold runAt
  rw [if_neg (by omega)]
  by_cases e : k = a
  · rw [if_pos e] at h ⊢
    subst e
    unfold rrun; rw [if_pos h]
  · rw [if_neg e] at h ⊢
    exact (rend_yes wc256 h).symm
theorem runAt_stop {s : ByteArray} {a k : Nat} (h : rin s a k = false) : runAt s a k = k := by
  unfold rin at h
  unfold runAt
  by_cases e : k = a
  · rw [if_pos e] at h ⊢
    subst e
    unfold rrun; rw [if_neg (by simp [h])]
  · rw [if_neg e] at h ⊢
    exact rend_no wc256 h
theorem rin_cases {s : ByteArray} {a k : Nat} (hlt : k < s.size) : 
    (sm s[k].toNat = true ∧ rin s a k = true) ∨ (sm s[k].toNat = false ∧ gr s[k].toNat = true ∧ rin s a k = true) ∨ (sm s[k].toNat = false ∧ gr s[k].toNat = false ∧ s[k].toNat = 95 ∧ rin s a k = true) ∨
    (sm s[k].toNat = false ∧ gr s[k].toNat = false ∧ s[k].toNat ≠ 95 ∧ k = a ∧ rin s a k = false) ∨
    (sm s[k].toNat = false ∧ gr s[k].toNat = false ∧ s[k].toNat ≠ 95 ∧ k ≠ a ∧ dg s[k].toNat = true ∧ rin s a k = true) ∨
    (sm s[k].toNat = false ∧ gr s[k].toNat = false ∧ s[k].toNat ≠ 95 ∧ k ≠ a ∧ dg s[k].toNat = false ∧ s[k].toNat = 39 ∧ rin s a k = true) ∨
    (sm s[k].toNat = false ∧ gr s[k].toNat = false ∧ s[k].toNat ≠ 95 ∧ k ≠ a ∧ dg s[k].toNat = false ∧ s[k].toNat ≠ 39 ∧ rin s a k = false) := by
  rw [← bt_in hlt]
  unfold rin wc
  rw [lt_sm]
  by_cases e : k = a
  · rw [if_pos e]
    clear hlt
    generalize bt s k = z
    cases sm z <;> cases gr z <;> by_cases h : z = 95 <;> simp [h, e]
  · rw [if_neg e]
    cases sm (bt s k) <;> cases gr (bt s k) <;> by_cases h : bt s k = 95 <;> cases dg (bt s k) <;> by_cases h2 : bt s k = 39 <;> simp [h, h2, e]
set_option maxHeartbeats 2000000 in
theorem rrun_any (s : ByteArray) (a : Nat) (ha : a ≤ s.size) (hs : s.size ≤ maxLen) (w : World) : Calls Tryd.prog 39 #[.string s, .int .i64 a] w fun e w' => e = .returned (.int .i64 (rrun s a : Nat)) ∧ w = w' := by
  unfold maxLen at hs
  have HR : Hid (runAt s a a = rrun s a) := Lib.hid (by unfold runAt; rw [if_pos rfl])
  go_enter Tryd.func39, Tryd.ntmps39
  go_wp2
  go_loop [5] (fun x => ∃ k : Nat, a ≤ k ∧ k ≤ s.size ∧ x = .int .i64 k ∧ runAt s a k = rrun s a) (fun x => s.size - (intOf x).toNat)
  case atStart => exact ⟨a, Nat.le_refl _, ha, rfl, HR.out⟩
  case round =>
    obtain ⟨k, hak, hk, rfl, hr⟩ := hrel
    have H := Lib.hid hr
    clear hr
    by_cases hlt : k < s.size
    · rcases rin_cases (a := a) hlt with ⟨h1, hi⟩ | ⟨h1, h2, hi⟩ | ⟨h1, h2, h3, hi⟩ | ⟨h1, h2, h3, h4, hi⟩ | ⟨h1, h2, h3, h4, h5, hi⟩ | ⟨h1, h2, h3, h4, h5, h6, hi⟩ | ⟨h1, h2, h3, h4, h5, h6, hi⟩
      · have HI := Lib.hid hi
        have K1 := Lib.hid h1
        clear hi h1
        go_wp2_with (first | ((with_reducible refine (rsmall_is _ (u8_lt _) _ K1.out _).mono ?_); rintro e w' ⟨rfl, rfl⟩))
        go_round
        case rel => exact ⟨k + 1, by omega, by omega, by go_num, (runAt_next hak HI.out).trans H.out⟩
        case measure => simp [intOf]; omega
      · have HI := Lib.hid hi
        have K1 := Lib.hid h1
        have K2 := Lib.hid h2
        clear hi h1 h2
        go_wp2_with (first | ((with_reducible refine (rsmall_is _ (u8_lt _) _ K1.out _).mono ?_); rintro e w' ⟨rfl, rfl⟩) | ((with_reducible refine (rgreat_is _ (u8_lt _) _ K2.out _).mono ?_); rintro e w' ⟨rfl, rfl⟩))
        go_round
        case rel => exact ⟨k + 1, by omega, by omega, by go_num, (runAt_next hak HI.out).trans H.out⟩
        case measure => simp [intOf]; omega
      · have HI := Lib.hid hi
        have K1 := Lib.hid h1
        have K2 := Lib.hid h2
        have K3 : ((s[k].toNat : Int) == 95) = true := by simp; omega
        clear hi h1 h2 h3
        go_wp2_with (first | ((with_reducible refine (rsmall_is _ (u8_lt _) _ K1.out _).mono ?_); rintro e w' ⟨rfl, rfl⟩) | ((with_reducible refine (rgreat_is _ (u8_lt _) _ K2.out _).mono ?_); rintro e w' ⟨rfl, rfl⟩))
        go_round
        case rel => exact ⟨k + 1, by omega, by omega, by go_num, (runAt_next hak HI.out).trans H.out⟩
        case measure => simp [intOf]; omega
      · have HI := Lib.hid hi
        have K1 := Lib.hid h1
        have K2 := Lib.hid h2
        have K3 : ((s[k].toNat : Int) == 95) = false := by simp; omega
        have K4 : ¬ (a : Int) < k := by omega
        clear hi h1 h2 h3 h4
        go_wp2_with (first | ((with_reducible refine (rsmall_is _ (u8_lt _) _ K1.out _).mono ?_); rintro e w' ⟨rfl, rfl⟩) | ((with_reducible refine (rgreat_is _ (u8_lt _) _ K2.out _).mono ?_); rintro e w' ⟨rfl, rfl⟩))
        go_ret
        exact ⟨ret_int (by rw [← H.out, runAt_stop HI.out]), rfl⟩
      · have HI := Lib.hid hi
        have K1 := Lib.hid h1
        have K2 := Lib.hid h2
        have K3 : ((s[k].toNat : Int) == 95) = false := by simp; omega
        have K4 : (a : Int) < k := by omega
        have K5 := Lib.hid h5
        clear hi h1 h2 h3 h4 h5
        go_wp2_with (first | ((with_reducible refine (rsmall_is _ (u8_lt _) _ K1.out _).mono ?_); rintro e w' ⟨rfl, rfl⟩) | ((with_reducible refine (rgreat_is _ (u8_lt _) _ K2.out _).mono ?_); rintro e w' ⟨rfl, rfl⟩) | ((with_reducible refine (rdigit_is _ (u8_lt _) _ K5.out _).mono ?_); rintro e w' ⟨rfl, rfl⟩))
        go_round
        case rel => exact ⟨k + 1, by omega, by omega, by go_num, (runAt_next hak HI.out).trans H.out⟩
        case measure => simp [intOf]; omega
      · have HI := Lib.hid hi
        have K1 := Lib.hid h1
        have K2 := Lib.hid h2
        have K3 : ((s[k].toNat : Int) == 95) = false := by simp; omega
        have K4 : (a : Int) < k := by omega
        have K5 := Lib.hid h5
        have K6 : ((s[k].toNat : Int) == 39) = true := by simp; omega
        clear hi h1 h2 h3 h4 h5 h6
        go_wp2_with (first | ((with_reducible refine (rsmall_is _ (u8_lt _) _ K1.out _).mono ?_); rintro e w' ⟨rfl, rfl⟩) | ((with_reducible refine (rgreat_is _ (u8_lt _) _ K2.out _).mono ?_); rintro e w' ⟨rfl, rfl⟩) | ((with_reducible refine (rdigit_is _ (u8_lt _) _ K5.out _).mono ?_); rintro e w' ⟨rfl, rfl⟩))
        go_round
        case rel => exact ⟨k + 1, by omega, by omega, by go_num, (runAt_next hak HI.out).trans H.out⟩
        case measure => simp [intOf]; omega
      · have HI := Lib.hid hi
        have K1 := Lib.hid h1
        have K2 := Lib.hid h2
        have K3 : ((s[k].toNat : Int) == 95) = false := by simp; omega
        have K4 : (a : Int) < k := by omega
        have K5 := Lib.hid h5
        have K6 : ((s[k].toNat : Int) == 39) = false := by simp; omega
        clear hi h1 h2 h3 h4 h5 h6
        go_wp2_with (first | ((with_reducible refine (rsmall_is _ (u8_lt _) _ K1.out _).mono ?_); rintro e w' ⟨rfl, rfl⟩) | ((with_reducible refine (rgreat_is _ (u8_lt _) _ K2.out _).mono ?_); rintro e w' ⟨rfl, rfl⟩) | ((with_reducible refine (rdigit_is _ (u8_lt _) _ K5.out _).mono ?_); rintro e w' ⟨rfl, rfl⟩))
        go_ret
        exact ⟨ret_int (by rw [← H.out, runAt_stop HI.out]), rfl⟩
    · have HX : Hid (runAt s a k = k) := Lib.hid (runAt_stop (by
        refine Bool.eq_false_iff.2 fun h => ?_
        exact hlt (rin_lt h)))
      go_wp2
      go_ret
      exact ⟨ret_int (by rw [← H.out, HX.out]), rfl⟩

/-! ### Remarks, and what is skipped -/
def remV (s : ByteArray) (a : Nat) : Int := if cm s (a + 2) 1 = 0 then -1 else (cm s (a + 2) 1 : Nat)
def remI (n : Nat) : Int := if n = 0 then -1 else (n : Nat)
theorem remark_any (s : ByteArray) (a : Nat) (ho : opens s a = true) (hs : s.size ≤ maxLen) (w : World) : Calls Tryd.prog 36 #[.string s, .int .i64 a] w fun e w' => e = .returned (.int .i64 (remV s a)) ∧ w = w' := by
  have hs' := hs
  unfold maxLen at hs
  have hoz := opens_lt ho
  have HO0 := Lib.hid ho
  obtain ⟨v, hv⟩ : ∃ v, cm s (a + 2) 1 = v := ⟨_, rfl⟩
  have HV := Lib.hid hv
  have HR : Hid (remI v = remV s a) := Lib.hid (by rw [← hv]; rfl)
  clear ho hv
  go_enter Tryd.func36, Tryd.ntmps36
  go_wp2
  go_loop [5, 6] (fun y x => ∃ i d : Nat, a ≤ i ∧ i ≤ s.size ∧ d ≤ i ∧ x = .int .i64 i ∧ y = .int .i64 d ∧ ((d = 0 ∧ i = a) ∨ (0 < d ∧ cm s i d = v))) (fun _ x => s.size - (intOf x).toNat)
  case atStart => exact ⟨a, 0, Nat.le_refl _, by omega, Nat.zero_le _, rfl, rfl, .inl ⟨rfl, rfl⟩⟩
  case round =>
    obtain ⟨i, d, hai, hi, hd, rfl, rfl, hc⟩ := hrel
    rcases hc with ⟨rfl, rfl⟩ | ⟨hd0, hc⟩
    · have hlt : i < s.size := by omega
      go_wp2_with (first | ((with_reducible refine (rhas_open s i hi hs' _ HO0.out _).mono ?_); rintro e w' ⟨rfl, rfl⟩))
      go_round
      case rel => exact ⟨i + 2, 1, by omega, by omega, by omega, by go_num, rfl, .inr ⟨by omega, HV.out⟩⟩
      case measure => simp [intOf]; omega
    · have HC := Lib.hid hc
      clear hc
      by_cases hlt : i < s.size
      · cases ho : opens s i
        · have HO := Lib.hid ho
          clear ho
          cases hsh : shuts s i
          · have HS := Lib.hid hsh
            clear hsh
            go_wp2_with (first | ((with_reducible refine (rhas_open s i hi hs' _ HO.out _).mono ?_); rintro e w' ⟨rfl, rfl⟩) | ((with_reducible refine (rhas_shut s i hi hs' _ HS.out _).mono ?_); rintro e w' ⟨rfl, rfl⟩))
            go_round
            case rel => exact ⟨i + 1, d, by omega, by omega, by omega, by go_num, rfl, .inr ⟨hd0, by rw [← HC.out, cm_next hlt HO.out HS.out]⟩⟩
            case measure => simp [intOf]; omega
          · have HS := Lib.hid hsh
            clear hsh
            have h2 := shuts_lt HS.out
            by_cases hd1 : d = 1
            · subst hd1
              have HX : Hid (v = i + 2) := Lib.hid (by rw [← HC.out, cm_last HS.out])
              go_wp2_with (first | ((with_reducible refine (rhas_open s i hi hs' _ HO.out _).mono ?_); rintro e w' ⟨rfl, rfl⟩) | ((with_reducible refine (rhas_shut s i hi hs' _ HS.out _).mono ?_); rintro e w' ⟨rfl, rfl⟩))
              go_ret
              exact ⟨ret_int (by rw [← HR.out, HX.out]; unfold remI; rw [if_neg (by omega)]; omega), rfl⟩
            · have hd2 : ((d : Int) - 1 == 0) = false := by simp; omega
              have hd3 : 0 ≤ (d : Int) - 1 := by omega
              have HX := Lib.hid (cm_shut HS.out hd1)
              have HD1 : Hid (0 < d - 1) := Lib.hid (by omega)
              clear hd1
              go_wp2_with (first | ((with_reducible refine (rhas_open s i hi hs' _ HO.out _).mono ?_); rintro e w' ⟨rfl, rfl⟩) | ((with_reducible refine (rhas_shut s i hi hs' _ HS.out _).mono ?_); rintro e w' ⟨rfl, rfl⟩))
              go_round
              case rel => exact ⟨i + 2, d - 1, by omega, by omega, by omega, by go_num, by congr 1; omega, .inr ⟨HD1.out, by rw [← HX.out, HC.out]⟩⟩
              case measure => simp [intOf]; omega
        · have HO := Lib.hid ho
          clear ho
          have h2 := opens_lt HO.out
          go_wp2_with (first | ((with_reducible refine (rhas_open s i hi hs' _ HO.out _).mono ?_); rintro e w' ⟨rfl, rfl⟩))
          go_round
          case rel => exact ⟨i + 2, d + 1, by omega, by omega, by omega, by go_num, by go_num, .inr ⟨by omega, by rw [← HC.out, cm_open HO.out]⟩⟩
          case measure => simp [intOf]; omega
      · have HX : Hid (v = 0) := Lib.hid (by rw [← HC.out, cm_out hlt])
        go_wp2
        go_ret
        exact ⟨ret_int (by rw [← HR.out, HX.out]; rfl), rfl⟩
theorem remark_is (s : ByteArray) (a : Nat) (ho : opens s a = true) (hs : s.size ≤ maxLen) (x : Int) (hx : remV s a = x) (w : World) : Calls Tryd.prog 36 #[.string s, .int .i64 a] w fun e w' => e = .returned (.int .i64 x) ∧ w = w' := by
  subst hx; exact remark_any s a ho hs w
theorem rskip_any (s : ByteArray) (i : Nat) (hi : i ≤ s.size) (hs : s.size ≤ maxLen) (w : World) : Calls Tryd.prog 21 #[.string s, .int .i64 i] w fun e w' => e = .returned (.tuple #[.int .i64 ((sk s i).1 : Nat), .bool (sk s i).2]) ∧ w = w' := by
  have hs' := hs
  unfold maxLen at hs
  generalize hr : sk s i = r
  have HR := Lib.hid hr
  clear hr
  go_enter Tryd.func21, Tryd.ntmps21
  go_wp2
  go_loop [1] (fun x => ∃ a : Nat, a ≤ s.size ∧ x = .int .i64 a ∧ sk s a = r) (fun x => s.size - (intOf x).toNat)
  case atStart => exact ⟨i, hi, rfl, HR.out⟩
  case round =>
    obtain ⟨a, ha, rfl, h⟩ := hrel
    have H := Lib.hid h
    clear h
    by_cases hlt : a < s.size
    · cases hb : bl (bt s a)
      · have HB := Lib.hid (bt_in hlt ▸ hb)
        have HBB := Lib.hid hb
        clear hb
        cases ho : opens s a
        · have HO := Lib.hid ho
          clear ho
          go_wp2_with (first | ((with_reducible refine (rblank_is _ (u8_lt _) _ HB.out _).mono ?_); rintro e w' ⟨rfl, rfl⟩) | ((with_reducible refine (rhas_open s a ha hs' _ HO.out _).mono ?_); rintro e w' ⟨rfl, rfl⟩))
          go_ret2
          exact ⟨ret_sk (by rw [← H.out, sk_stop HBB.out HO.out]), rfl⟩
        · have HO := Lib.hid ho
          clear ho
          by_cases hz : cm s (a + 2) 1 = 0
          · have HM : Hid (remV s a = -1) := Lib.hid (by unfold remV; rw [if_pos hz])
            have HZ := Lib.hid hz
            clear hz
            go_wp2_with (first | ((with_reducible refine (rblank_is _ (u8_lt _) _ HB.out _).mono ?_); rintro e w' ⟨rfl, rfl⟩) | ((with_reducible refine (rhas_open s a ha hs' _ HO.out _).mono ?_); rintro e w' ⟨rfl, rfl⟩) | ((with_reducible refine (remark_is s a HO.out hs' _ HM.out _).mono ?_); rintro e w' ⟨rfl, rfl⟩))
            go_ret2
            exact ⟨ret_sk (by rw [← H.out, sk_open HO.out HZ.out]), rfl⟩
          · have hp := cm_pos _ _ _ (Nat.le_refl _) hz
            have HX := Lib.hid (sk_over HO.out hz)
            obtain ⟨v, hv⟩ : ∃ v, cm s (a + 2) 1 = v := ⟨_, rfl⟩
            have HM : Hid (remV s a = (v : Nat)) := Lib.hid (by unfold remV; rw [if_neg hz, hv])
            rw [hv] at hp HX
            clear hz hv
            go_wp2_with (first | ((with_reducible refine (rblank_is _ (u8_lt _) _ HB.out _).mono ?_); rintro e w' ⟨rfl, rfl⟩) | ((with_reducible refine (rhas_open s a ha hs' _ HO.out _).mono ?_); rintro e w' ⟨rfl, rfl⟩) | ((with_reducible refine (remark_is s a HO.out hs' _ HM.out _).mono ?_); rintro e w' ⟨rfl, rfl⟩))
            go_round
            case rel => exact ⟨v, hp.2, rfl, HX.out.symm.trans H.out⟩
            case measure => simp [intOf]; omega
      · have HB := Lib.hid (bt_in hlt ▸ hb)
        have HBB := Lib.hid hb
        clear hb
        go_wp2_with (first | ((with_reducible refine (rblank_is _ (u8_lt _) _ HB.out _).mono ?_); rintro e w' ⟨rfl, rfl⟩))
        go_round
        case rel => exact ⟨a + 1, by omega, by go_num, (sk_blank HBB.out).symm.trans H.out⟩
        case measure => simp [intOf]; omega
    · obtain rfl : a = s.size := by omega
      go_wp2
      go_ret2
      exact ⟨ret_sk (by rw [← H.out, sk_end hlt]), rfl⟩
end Go.Proofs.YtkogfdbmgdajdaaDoor
