/-
  THE PROGRAM's NAMES: isWord, isReserved, isLower of package tree.
-/
import Derived.Test.YtgdclchpccbifaaNm
namespace Go.Proofs.Ytgdclchpccbifaa
open Go.ChangeShapes Go.WideShapes Go.ChangeAt Go.RowKit
set_option linter.unusedVariables false
def wordB (s : ByteArray) : Bool := decide (1 ≤ s.size) && decide (s.size ≤ 32) && (List.range s.size).all fun i => restB (bt s i)
def resL : List ByteArray := [⟨#[95]⟩, ⟨#[116, 114, 117, 101]⟩, ⟨#[102, 97, 108, 115, 101]⟩, ⟨#[97, 110, 100]⟩, ⟨#[97, 110, 100, 97, 108, 115, 111]⟩, ⟨#[97, 115]⟩, ⟨#[99, 97, 115, 101]⟩, ⟨#[100, 97, 116, 97, 116, 121, 112, 101]⟩, ⟨#[100, 105, 118]⟩, ⟨#[101, 108, 115, 101]⟩, ⟨#[101, 110, 100]⟩, ⟨#[101, 120, 99, 101, 112, 116, 105, 111, 110]⟩, ⟨#[102, 110]⟩, ⟨#[102, 117, 110]⟩, ⟨#[104, 97, 110, 100, 108, 101]⟩, ⟨#[105, 102]⟩, ⟨#[105, 110]⟩, ⟨#[108, 101, 116]⟩, ⟨#[109, 111, 100]⟩, ⟨#[111, 102]⟩, ⟨#[111, 114, 101, 108, 115, 101]⟩, ⟨#[112, 114, 105, 110, 116]⟩, ⟨#[114, 97, 105, 115, 101]⟩, ⟨#[114, 101, 97, 100]⟩, ⟨#[114, 101, 102]⟩, ⟨#[116, 104, 101, 110]⟩, ⟨#[118, 97, 108]⟩]
theorem word_upto {s : ByteArray} {k : Nat} (h : ∀ i, i < k → restB (bt s i) = true) (hk : k = s.size) : ((List.range s.size).all fun i => restB (bt s i)) = true := by
  rw [List.all_eq_true]
  intro i hi
  have := List.mem_range.1 hi
  exact h i (by omega)
theorem word_not {s : ByteArray} {k : Nat} (h2 : k < s.size) (h : restB (bt s k) = false) : ((List.range s.size).all fun i => restB (bt s i)) = false := by
  rw [Bool.eq_false_iff]
  intro hh
  have := List.all_eq_true.1 hh k (List.mem_range.2 h2)
  rw [h] at this
  cases this
theorem low_eq (s : ByteArray) : lowB s = (wordB s && letB (bt s 0) false && !resL.any fun t => decide (t = s)) := by
  have hw : shapedB s false = (wordB s && letB (bt s 0) false) := by
    rw [Bool.eq_iff_iff]
    simp only [shapedB, wordB, Bool.and_eq_true, decide_eq_true_eq, List.all_eq_true, List.mem_range, Bool.or_eq_true, beq_iff_eq]
    constructor
    · rintro ⟨⟨⟨h1, h2⟩, h3⟩, h4⟩
      refine ⟨⟨⟨h1, h2⟩, fun i hi => ?_⟩, h3⟩
      rcases h4 i hi with rfl | h
      · unfold letB at h3
        unfold restB
        simp only [Bool.false_eq_true, if_false, decide_eq_true_eq] at h3 ⊢
        omega
      · exact h
    · rintro ⟨⟨⟨h1, h2⟩, h4⟩, h3⟩
      exact ⟨⟨⟨h1, h2⟩, h3⟩, fun i hi => .inr (h4 i hi)⟩
  have hl : resL = ⟨#[95]⟩ :: ⟨#[116, 114, 117, 101]⟩ :: ⟨#[102, 97, 108, 115, 101]⟩ :: wordsL := rfl
  unfold lowB
  rw [hw, hl]
  simp only [List.any_cons, Bool.not_or, Bool.and_assoc]
  congr 1
  congr 1
  have e : ∀ t : ByteArray, decide (s ≠ t) = !decide (t = s) := fun t => by
    by_cases h : t = s
    · subst h; simp
    · rw [decide_eq_true (show s ≠ t from fun e : s = t => h e.symm), decide_eq_false h]; rfl
  rw [e, e, e]
set_option maxHeartbeats 1000000 in
theorem isWord_any (s : ByteArray) (hs : s.size ≤ 1048576) (b : Bool) (hb : wordB s = b) (w : World) : Calls Try.prog 102 #[.string s] w fun e w' => e = .returned (.bool b) ∧ w = w' := by
  have HB := Lib.hid hb
  clear hb
  by_cases h1 : 1 ≤ s.size
  case neg =>
    have q1 : ((s.size : Int) < 1) := by omega
    have e : b = false := by rw [← HB.out]; simp [wordB, show ¬ 1 ≤ s.size from h1]
    subst e
    go_enter Try.func102, Try.ntmps102
    go_wp2
    go_ret
    exact ⟨rfl, rfl⟩
  by_cases h2 : s.size ≤ 32
  case neg =>
    have q0 : (1 : Int) ≤ s.size := by omega
    have q1 : (32 < (s.size : Int)) := by omega
    have e : b = false := by rw [← HB.out]; simp [wordB, h2]
    subst e
    go_enter Try.func102, Try.ntmps102
    go_wp2
    go_ret
    exact ⟨rfl, rfl⟩
  have q0 : (1 : Int) ≤ s.size := by omega
  have q1 : (s.size : Int) ≤ 32 := by omega
  have HE : Hid (wordB s = ((List.range s.size).all fun i => restB (bt s i))) := Lib.hid (by simp only [wordB, h1, h2, decide_true, Bool.true_and])
  go_enter Try.func102, Try.ntmps102
  go_wp2
  go_loop [3, 4, 15] (fun _ _ z => ∃ k : Nat, k ≤ s.size ∧ z = .int .i64 k ∧ ∀ i, i < k → restB (bt s i) = true) (fun _ _ z => s.size - (intOf z).toNat)
  case atStart => exact ⟨0, Nat.zero_le _, rfl, fun i a => by omega⟩
  case round =>
    obtain ⟨k, hk, rfl, hall⟩ := hrel
    have HA := Lib.hid hall
    clear hall
    by_cases hkl : k < s.size
    · have hbk := bt_in hkl
      have hlk : s[k].toNat < 256 := UInt8.toNat_lt _
      have HBK := Lib.hid hbk
      have HKL := Lib.hid hkl
      clear hbk
      cases hr : restB s[k].toNat
      · have hr' := hr
        unfold restB at hr'
        rw [decide_eq_false_iff_not] at hr'
        have HR := Lib.hid hr
        have e : b = false := by rw [← HB.out, HE.out]; exact word_not hkl (by rw [HBK.out]; exact hr)
        subst e
        clear hr
        have c1 : (s[k].toNat < 97 ∨ 122 < s[k].toNat) := by omega
        have c2 : (s[k].toNat < 65 ∨ 90 < s[k].toNat) := by omega
        have c3 : (s[k].toNat < 48 ∨ 57 < s[k].toNat) := by omega
        have c4 : ¬ (s[k].toNat = 95) := by omega
        have c5 : ¬ (s[k].toNat = 39) := by omega
        clear hr'
        have q4 : ((s[k].toNat : Int) == 95) = false := by rw [beq_eq_false_iff_ne]; omega
        have q5 : ((s[k].toNat : Int) == 39) = false := by rw [beq_eq_false_iff_ne]; omega
        clear c4 c5
        rcases c1 with c1 | c1 <;> rcases c2 with c2 | c2 <;> rcases c3 with c3 | c3 <;> first | (exfalso; omega) | skip
        all_goals go_wp2
        all_goals first | (go_ret; exact ⟨rfl, rfl⟩) | (exfalso; omega) | (exfalso; simp_all; omega)
      · have hr' := hr
        unfold restB at hr'
        rw [decide_eq_true_eq] at hr'
        have HR := Lib.hid hr
        clear hr
        rcases hr' with hr' | hr' | hr' | hr' | hr'
        rotate_left 3
        · have q : ((s[k].toNat : Int) == 95) = true := by rw [beq_iff_eq]; omega
          go_wp2
          all_goals first | exact ⟨⟨k + 1, by omega, by go_num, fun i hi => (by by_cases e : i = k; (· subst e; rw [HBK.out]; exact HR.out); (· exact HA.out i (by omega)))⟩, by simp [intOf]; omega⟩ | (exfalso; omega) | (exfalso; simp_all; omega)
        · have q0 : ((s[k].toNat : Int) == 95) = false := by rw [beq_eq_false_iff_ne]; omega
          have q : ((s[k].toNat : Int) == 39) = true := by rw [beq_iff_eq]; omega
          go_wp2
          all_goals first | exact ⟨⟨k + 1, by omega, by go_num, fun i hi => (by by_cases e : i = k; (· subst e; rw [HBK.out]; exact HR.out); (· exact HA.out i (by omega)))⟩, by simp [intOf]; omega⟩ | (exfalso; omega) | (exfalso; simp_all; omega)
        all_goals go_wp2
        all_goals first | exact ⟨⟨k + 1, by omega, by go_num, fun i hi => (by by_cases e : i = k; (· subst e; rw [HBK.out]; exact HR.out); (· exact HA.out i (by omega)))⟩, by simp [intOf]; omega⟩ | (exfalso; omega) | (exfalso; simp_all; omega)
    · have hk' : k = s.size := by omega
      have e : b = true := by rw [← HB.out, HE.out]; exact word_upto HA.out hk'
      subst e
      go_wp2
      go_ret
      exact ⟨rfl, rfl⟩
set_option maxHeartbeats 4000000 in
theorem isReserved_any (s : ByteArray) (w : World) : Calls Try.prog 103 #[.string s] w fun e w' => e = .returned (.bool (resL.any fun t => decide (t = s))) ∧ w = w' := by
  by_cases e0 : s = ⟨#[95]⟩
  case pos =>
    subst e0
    go_enter Try.func103, Try.ntmps103
    go_wp2
    go_ret
    exact ⟨rfl, rfl⟩
  have q0 := str_no e0
  have E0 := Lib.hid e0
  clear e0
  by_cases e1 : s = ⟨#[116, 114, 117, 101]⟩
  case pos =>
    subst e1
    go_enter Try.func103, Try.ntmps103
    go_wp2
    go_ret
    exact ⟨rfl, rfl⟩
  have q1 := str_no e1
  have E1 := Lib.hid e1
  clear e1
  by_cases e2 : s = ⟨#[102, 97, 108, 115, 101]⟩
  case pos =>
    subst e2
    go_enter Try.func103, Try.ntmps103
    go_wp2
    go_ret
    exact ⟨rfl, rfl⟩
  have q2 := str_no e2
  have E2 := Lib.hid e2
  clear e2
  by_cases e3 : s = ⟨#[97, 110, 100]⟩
  case pos =>
    subst e3
    go_enter Try.func103, Try.ntmps103
    go_wp2
    go_ret
    exact ⟨rfl, rfl⟩
  have q3 := str_no e3
  have E3 := Lib.hid e3
  clear e3
  by_cases e4 : s = ⟨#[97, 110, 100, 97, 108, 115, 111]⟩
  case pos =>
    subst e4
    go_enter Try.func103, Try.ntmps103
    go_wp2
    go_ret
    exact ⟨rfl, rfl⟩
  have q4 := str_no e4
  have E4 := Lib.hid e4
  clear e4
  by_cases e5 : s = ⟨#[97, 115]⟩
  case pos =>
    subst e5
    go_enter Try.func103, Try.ntmps103
    go_wp2
    go_ret
    exact ⟨rfl, rfl⟩
  have q5 := str_no e5
  have E5 := Lib.hid e5
  clear e5
  by_cases e6 : s = ⟨#[99, 97, 115, 101]⟩
  case pos =>
    subst e6
    go_enter Try.func103, Try.ntmps103
    go_wp2
    go_ret
    exact ⟨rfl, rfl⟩
  have q6 := str_no e6
  have E6 := Lib.hid e6
  clear e6
  by_cases e7 : s = ⟨#[100, 97, 116, 97, 116, 121, 112, 101]⟩
  case pos =>
    subst e7
    go_enter Try.func103, Try.ntmps103
    go_wp2
    go_ret
    exact ⟨rfl, rfl⟩
  have q7 := str_no e7
  have E7 := Lib.hid e7
  clear e7
  by_cases e8 : s = ⟨#[100, 105, 118]⟩
  case pos =>
    subst e8
    go_enter Try.func103, Try.ntmps103
    go_wp2
    go_ret
    exact ⟨rfl, rfl⟩
  have q8 := str_no e8
  have E8 := Lib.hid e8
  clear e8
  by_cases e9 : s = ⟨#[101, 108, 115, 101]⟩
  case pos =>
    subst e9
    go_enter Try.func103, Try.ntmps103
    go_wp2
    go_ret
    exact ⟨rfl, rfl⟩
  have q9 := str_no e9
  have E9 := Lib.hid e9
  clear e9
  by_cases e10 : s = ⟨#[101, 110, 100]⟩
  case pos =>
    subst e10
    go_enter Try.func103, Try.ntmps103
    go_wp2
    go_ret
    exact ⟨rfl, rfl⟩
  have q10 := str_no e10
  have E10 := Lib.hid e10
  clear e10
  by_cases e11 : s = ⟨#[101, 120, 99, 101, 112, 116, 105, 111, 110]⟩
  case pos =>
    subst e11
    go_enter Try.func103, Try.ntmps103
    go_wp2
    go_ret
    exact ⟨rfl, rfl⟩
  have q11 := str_no e11
  have E11 := Lib.hid e11
  clear e11
  by_cases e12 : s = ⟨#[102, 110]⟩
  case pos =>
    subst e12
    go_enter Try.func103, Try.ntmps103
    go_wp2
    go_ret
    exact ⟨rfl, rfl⟩
  have q12 := str_no e12
  have E12 := Lib.hid e12
  clear e12
  by_cases e13 : s = ⟨#[102, 117, 110]⟩
  case pos =>
    subst e13
    go_enter Try.func103, Try.ntmps103
    go_wp2
    go_ret
    exact ⟨rfl, rfl⟩
  have q13 := str_no e13
  have E13 := Lib.hid e13
  clear e13
  by_cases e14 : s = ⟨#[104, 97, 110, 100, 108, 101]⟩
  case pos =>
    subst e14
    go_enter Try.func103, Try.ntmps103
    go_wp2
    go_ret
    exact ⟨rfl, rfl⟩
  have q14 := str_no e14
  have E14 := Lib.hid e14
  clear e14
  by_cases e15 : s = ⟨#[105, 102]⟩
  case pos =>
    subst e15
    go_enter Try.func103, Try.ntmps103
    go_wp2
    go_ret
    exact ⟨rfl, rfl⟩
  have q15 := str_no e15
  have E15 := Lib.hid e15
  clear e15
  by_cases e16 : s = ⟨#[105, 110]⟩
  case pos =>
    subst e16
    go_enter Try.func103, Try.ntmps103
    go_wp2
    go_ret
    exact ⟨rfl, rfl⟩
  have q16 := str_no e16
  have E16 := Lib.hid e16
  clear e16
  by_cases e17 : s = ⟨#[108, 101, 116]⟩
  case pos =>
    subst e17
    go_enter Try.func103, Try.ntmps103
    go_wp2
    go_ret
    exact ⟨rfl, rfl⟩
  have q17 := str_no e17
  have E17 := Lib.hid e17
  clear e17
  by_cases e18 : s = ⟨#[109, 111, 100]⟩
  case pos =>
    subst e18
    go_enter Try.func103, Try.ntmps103
    go_wp2
    go_ret
    exact ⟨rfl, rfl⟩
  have q18 := str_no e18
  have E18 := Lib.hid e18
  clear e18
  by_cases e19 : s = ⟨#[111, 102]⟩
  case pos =>
    subst e19
    go_enter Try.func103, Try.ntmps103
    go_wp2
    go_ret
    exact ⟨rfl, rfl⟩
  have q19 := str_no e19
  have E19 := Lib.hid e19
  clear e19
  by_cases e20 : s = ⟨#[111, 114, 101, 108, 115, 101]⟩
  case pos =>
    subst e20
    go_enter Try.func103, Try.ntmps103
    go_wp2
    go_ret
    exact ⟨rfl, rfl⟩
  have q20 := str_no e20
  have E20 := Lib.hid e20
  clear e20
  by_cases e21 : s = ⟨#[112, 114, 105, 110, 116]⟩
  case pos =>
    subst e21
    go_enter Try.func103, Try.ntmps103
    go_wp2
    go_ret
    exact ⟨rfl, rfl⟩
  have q21 := str_no e21
  have E21 := Lib.hid e21
  clear e21
  by_cases e22 : s = ⟨#[114, 97, 105, 115, 101]⟩
  case pos =>
    subst e22
    go_enter Try.func103, Try.ntmps103
    go_wp2
    go_ret
    exact ⟨rfl, rfl⟩
  have q22 := str_no e22
  have E22 := Lib.hid e22
  clear e22
  by_cases e23 : s = ⟨#[114, 101, 97, 100]⟩
  case pos =>
    subst e23
    go_enter Try.func103, Try.ntmps103
    go_wp2
    go_ret
    exact ⟨rfl, rfl⟩
  have q23 := str_no e23
  have E23 := Lib.hid e23
  clear e23
  by_cases e24 : s = ⟨#[114, 101, 102]⟩
  case pos =>
    subst e24
    go_enter Try.func103, Try.ntmps103
    go_wp2
    go_ret
    exact ⟨rfl, rfl⟩
  have q24 := str_no e24
  have E24 := Lib.hid e24
  clear e24
  by_cases e25 : s = ⟨#[116, 104, 101, 110]⟩
  case pos =>
    subst e25
    go_enter Try.func103, Try.ntmps103
    go_wp2
    go_ret
    exact ⟨rfl, rfl⟩
  have q25 := str_no e25
  have E25 := Lib.hid e25
  clear e25
  by_cases e26 : s = ⟨#[118, 97, 108]⟩
  case pos =>
    subst e26
    go_enter Try.func103, Try.ntmps103
    go_wp2
    go_ret
    exact ⟨rfl, rfl⟩
  have q26 := str_no e26
  have E26 := Lib.hid e26
  clear e26
  go_enter Try.func103, Try.ntmps103
  go_wp2
  go_ret
  refine ⟨ret_bool ?_, rfl⟩
  symm
  rw [Bool.eq_false_iff]
  intro h
  obtain ⟨t, ht, he⟩ := List.any_eq_true.1 h
  have he := of_decide_eq_true he
  subst he
  simp only [resL, List.mem_cons, List.not_mem_nil, or_false] at ht
  rcases ht with h | h | h | h | h | h | h | h | h | h | h | h | h | h | h | h | h | h | h | h | h | h | h | h | h | h | h
  · exact E0.out h
  · exact E1.out h
  · exact E2.out h
  · exact E3.out h
  · exact E4.out h
  · exact E5.out h
  · exact E6.out h
  · exact E7.out h
  · exact E8.out h
  · exact E9.out h
  · exact E10.out h
  · exact E11.out h
  · exact E12.out h
  · exact E13.out h
  · exact E14.out h
  · exact E15.out h
  · exact E16.out h
  · exact E17.out h
  · exact E18.out h
  · exact E19.out h
  · exact E20.out h
  · exact E21.out h
  · exact E22.out h
  · exact E23.out h
  · exact E24.out h
  · exact E25.out h
  · exact E26.out h
theorem isLower_any (s : ByteArray) (hs : s.size ≤ 1048576) (w : World) : Calls Try.prog 93 #[.string s] w fun e w' => e = .returned (.bool (lowB s)) ∧ w = w' := by
  have HE := Lib.hid (low_eq s)
  cases hw : wordB s
  case false =>
    have HW := Lib.hid hw
    clear hw
    go_enter Try.func93, Try.ntmps93
    go_wp2_with (go_at_call 102; refine (isWord_any s hs _ HW.out _).mono ?_; rintro e w' ⟨rfl, rfl⟩)
    go_ret
    exact ⟨ret_bool (by rw [HE.out, HW.out]; rfl), rfl⟩
  have h1 : 0 < s.size := by
    unfold wordB at hw
    simp only [Bool.and_eq_true, decide_eq_true_eq] at hw
    omega
  have HW := Lib.hid hw
  have hlt : s[0].toNat < 256 := UInt8.toNat_lt _
  have HBT := Lib.hid (bt_in h1)
  clear hw
  cases hl : letB (bt s 0) false
  case false =>
    have HL := Lib.hid hl
    rw [HBT.out] at hl
    unfold letB at hl
    simp only [Bool.false_eq_true, if_false, decide_eq_false_iff_not] at hl
    have c1 : ¬ s[0].toNat = 95 := by omega
    have c2 : s[0].toNat < 97 ∨ 122 < s[0].toNat := by omega
    clear hl
    rcases c2 with c2 | c2
    all_goals
      go_enter Try.func93, Try.ntmps93
      go_wp2_with (go_at_call 102; refine (isWord_any s hs _ HW.out _).mono ?_; rintro e w' ⟨rfl, rfl⟩)
    all_goals first | (exfalso; omega) | (go_ret; exact ⟨ret_bool (by rw [HE.out, HW.out, HL.out]; rfl), rfl⟩)
  have HL := Lib.hid hl
  rw [HBT.out] at hl
  unfold letB at hl
  simp only [Bool.false_eq_true, if_false, decide_eq_true_eq] at hl
  have hR := isReserved_any s
  have HF : Hid (lowB s = !resL.any fun t => decide (t = s)) := Lib.hid (by rw [HE.out, HW.out, HL.out]; rfl)
  generalize (resL.any fun t => decide (t = s)) = r at hR HF
  have HRR := Lib.hid hR
  clear hR
  rcases hl with hl | hl
  all_goals
    go_enter Try.func93, Try.ntmps93
    go_wp2_with (first | (go_at_call 102; refine (isWord_any s hs _ HW.out _).mono ?_; rintro e w' ⟨rfl, rfl⟩) | (go_at_call 103; refine (HRR.out _).mono ?_; rintro e w' ⟨rfl, rfl⟩))
  all_goals first | (exfalso; omega) | (go_ret; exact ⟨ret_bool (by rw [HF.out]), rfl⟩)
end Go.Proofs.Ytgdclchpccbifaa
