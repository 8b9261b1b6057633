/-
  CONTRACTS OF lex, I: classes of bytes, blanks, prefixes, what is skipped, the end of a token's number.
-/
import Derived.Test.YtkogfdbmgdajdaaDoorShelf
import Derived.Test.YtkogfdbmgdajdaaDoorInts
import Derived.Test.YtkogfdbmgdajdaaDoorLexM
import Derived.Deep.QuietTactic
import Derived.BigQuiet
import Derived.WalkSpells
import Derived.WalkLawsBesides
import Derived.Outline
import Derived.Deep.LoopGhost
namespace Go.Proofs.YtkogfdbmgdajdaaDoor
open Go.ChangeShapes Go.WideShapes Go.ChangeAt Go.RowKit
set_option linter.unusedVariables false

theorem cls_arith (c : Nat) : (48 ≤ c ∧ c ≤ 57 → cls c = 1) ∧ (97 ≤ c ∧ c ≤ 122 → cls c = 2) ∧ (65 ≤ c ∧ c ≤ 90 → cls c = 2) ∧ (c = 95 → cls c = 2) ∧ (c = 39 → cls c = 3) ∧
    (¬ (48 ≤ c ∧ c ≤ 57) → ¬ (97 ≤ c ∧ c ≤ 122) → ¬ (65 ≤ c ∧ c ≤ 90) → c ≠ 95 → c ≠ 39 → cls c = 0) := by
  rcases cls_cases c with ⟨h, h1⟩ | ⟨h, h1, h2⟩ | ⟨h, h1⟩ | ⟨h, h1, h2, h3⟩
  · rw [dg_iff] at h1; omega
  · rw [dg_false] at h1; rw [lt_iff] at h2; omega
  · omega
  · rw [dg_false] at h1; rw [lt_false] at h2; omega
theorem classOf_any (c : Nat) (hc : c < 256) (w : World) : Calls Tryd.prog 27 #[.int .u8 c] w fun e w' => e = .returned (.int .i64 (cls c : Nat)) ∧ w = w' := by
  go_enter Tryd.func27, Tryd.ntmps27
  go_wp2
  all_goals go_ret
  all_goals refine ⟨ret_int ?_, rfl⟩
  all_goals have h := cls_arith c
  all_goals first | omega | (simp only [beq_iff_eq, beq_eq_false_iff_ne, ne_eq] at *; omega)
theorem bl_arith (c : Nat) : (c = 32 → bl c = true) ∧ (c = 9 → bl c = true) ∧ (c = 10 → bl c = true) ∧ (c = 13 → bl c = true) ∧ (c ≠ 32 → c ≠ 9 → c ≠ 10 → c ≠ 13 → bl c = false) := by
  refine ⟨fun h => bl_iff.2 (by omega), fun h => bl_iff.2 (by omega), fun h => bl_iff.2 (by omega), fun h => bl_iff.2 (by omega), fun h1 h2 h3 h4 => bl_false.2 (by omega)⟩
theorem isBlank_any (c : Nat) (hc : c < 256) (w : World) : Calls Tryd.prog 30 #[.int .u8 c] w fun e w' => e = .returned (.bool (bl c)) ∧ w = w' := by
  have e : bl c = ((c : Int) == 32 || (c : Int) == 9 || (c : Int) == 10 || (c : Int) == 13) := by
    rw [Bool.eq_iff_iff, bl_iff]; simp; omega
  have H := Lib.hid e
  clear e
  go_enter Tryd.func30, Tryd.ntmps30
  go_wp2
  all_goals go_ret
  all_goals refine ⟨ret_bool ?_, rfl⟩
  all_goals rw [H.out]
  all_goals simp_all
theorem isBlank_is (c : Nat) (hc : c < 256) (b : Bool) (hb : bl c = b) (w : World) : Calls Tryd.prog 30 #[.int .u8 c] w fun e w' => e = .returned (.bool b) ∧ w = w' := by subst hb; exact isBlank_any c hc w
theorem classOf_is (c : Nat) (hc : c < 256) (k : Int) (hk : ((cls c : Nat) : Int) = k) (w : World) : Calls Tryd.prog 27 #[.int .u8 c] w fun e w' => e = .returned (.int .i64 k) ∧ w = w' := by subst hk; exact classOf_any c hc w
theorem size_toList (s : ByteArray) : s.data.toList.length = s.size := by rw [Array.length_toList]; rfl
theorem hasPrefix_pre {s : ByteArray} {a : Nat} (ha : a ≤ s.size) (p : List UInt8) : Lib.hasPrefix (s.extract a s.size).data.toList p = pre s a p := by
  have key : ∀ (p : List UInt8) (a : Nat), a ≤ s.size → p.isPrefixOf (s.data.toList.drop a) = pre s a p := by
    intro p
    induction p with
    | nil => intro a _; simp [pre, List.isPrefixOf]
    | cons c p ih =>
      intro a ha
      by_cases hlt : a < s.size
      · rw [List.drop_eq_getElem_cons (by rw [size_toList]; exact hlt)]
        simp only [List.isPrefixOf, pre]
        rw [ih (a + 1) (by omega), bt_in hlt]
        congr 1
        rw [Bool.eq_iff_iff]
        simp only [beq_iff_eq, decide_eq_true_eq]
        constructor
        · intro h; rw [h]; rfl
        · intro h; exact (UInt8.toNat_inj.1 h).symm
      · rw [List.drop_eq_nil_of_le (by rw [size_toList]; omega)]
        simp only [List.isPrefixOf, pre]
        rw [bt_out hlt, decide_eq_false (by have := UInt8.toNat_lt c; omega)]; rfl
  unfold Lib.hasPrefix
  rw [← key p a ha]
  congr 1
  have e : (s.extract a s.size).data.toList = List.take (s.size - a) (List.drop a s.data.toList) := by simp
  rw [e, List.take_of_length_le (by rw [List.length_drop, size_toList]; omega)]
/-- Does p stand in s at a? -/
theorem has_any (s : ByteArray) (a : Nat) (ha : a ≤ s.size) (p : ByteArray) (w : World) : Calls Tryd.prog 29 #[.string (s.extract a s.size), .string p] w fun e w' => e = .returned (.bool (pre s a p.data.toList)) ∧ w = w' := by
  refine (Tryd.strings_HasPrefix _ _ w).mono fun e w' ⟨he, hw⟩ => ?_
  rw [hasPrefix_pre ha] at he
  exact ⟨he, hw.symm⟩
theorem has_open (s : ByteArray) (a : Nat) (ha : a ≤ s.size) (b : Bool) (hb : opens s a = b) (w : World) : Calls Tryd.prog 29 #[.string (s.extract a s.size), .string ⟨#[40, 42]⟩] w fun e w' => e = .returned (.bool b) ∧ w = w' := by
  subst hb
  refine (has_any s a ha _ w).mono fun e w' ⟨he, hw⟩ => ⟨?_, hw⟩
  rw [he]
  congr 2
  show (decide (bt s a = 40) && (decide (bt s (a + 1) = 42) && true)) = _
  rw [Bool.and_true]; rfl
theorem has_shut (s : ByteArray) (a : Nat) (ha : a ≤ s.size) (b : Bool) (hb : shuts s a = b) (w : World) : Calls Tryd.prog 29 #[.string (s.extract a s.size), .string ⟨#[42, 41]⟩] w fun e w' => e = .returned (.bool b) ∧ w = w' := by
  subst hb
  refine (has_any s a ha _ w).mono fun e w' ⟨he, hw⟩ => ⟨?_, hw⟩
  rw [he]
  congr 2
  show (decide (bt s a = 42) && (decide (bt s (a + 1) = 41) && true)) = _
  rw [Bool.and_true]; rfl

theorem ret_sk {r : Nat × Bool} {x : Nat} {b : Bool} (h : r = (x, b)) : Ending.returned (.tuple #[.int .i64 (x : Nat), .bool b]) = .returned (.tuple #[.int .i64 (r.1 : Nat), .bool r.2]) := by rw [h]
/-- What a state of skip's loop comes to. -/
def skAt (s : ByteArray) (o a d : Nat) : Nat × Bool := if d = 0 then sk s a else if cm s a d = 0 then (o, false) else sk s (cm s a d)
theorem skAt_shut {s : ByteArray} {o a d : Nat} (h : shuts s a = true) (hd : 0 < d) : skAt s o (a + 2) (d - 1) = skAt s o a d := by
  unfold skAt
  rw [if_neg (by omega : d ≠ 0)]
  by_cases h1 : d = 1
  · subst h1
    rw [if_pos rfl, cm_last h, if_neg (by omega)]
  · rw [if_neg (by omega), cm_shut h h1]
theorem skAt_next {s : ByteArray} {o a d : Nat} (hlt : a < s.size) (h1 : opens s a = false) (h2 : shuts s a = false) (hd : 0 < d) : skAt s o (a + 1) d = skAt s o a d := by
  unfold skAt
  rw [if_neg (by omega : d ≠ 0), if_neg (by omega : d ≠ 0), cm_next hlt h1 h2]
theorem skAt_more {s : ByteArray} {o a d : Nat} (h1 : opens s a = true) (hd : 0 < d) : skAt s o (a + 2) (d + 1) = skAt s o a d := by
  unfold skAt
  rw [if_neg (by omega : d + 1 ≠ 0), if_neg (by omega : d ≠ 0), cm_open h1]
theorem skAt_open {s : ByteArray} {o a : Nat} (h : opens s a = true) : skAt s a (a + 2) 1 = skAt s o a 0 := by
  unfold skAt
  rw [if_neg (by omega), if_pos rfl]
  by_cases hz : cm s (a + 2) 1 = 0
  · rw [if_pos hz, sk_open h hz]
  · rw [if_neg hz, sk_over h hz]
theorem skip_any (s : ByteArray) (i : Nat) (hi : i ≤ s.size) (hs : s.size ≤ maxLen) (w : World) : Calls Tryd.prog 19 #[.string s, .int .i64 i] w fun e w' => e = .returned (.tuple #[.int .i64 ((sk s i).1 : Nat), .bool (sk s i).2]) ∧ w = w' := by
  have hs' := hs
  unfold maxLen at hs
  generalize hr : sk s i = r
  have HR := Lib.hid hr
  clear hr
  go_enter Tryd.func19, Tryd.ntmps19
  go_wp2
  go_step3
  go_wp2
  go_step3
  go_wp2
  go_loopg [1, 6, 7] (s.size - i) (fun k x y z wr => ∃ a o d : Nat, a ≤ s.size ∧ d ≤ a ∧ k = s.size - a ∧ x = .int .i64 a ∧ y = .int .i64 o ∧ z = .int .i64 d ∧ skAt s o a d = r ∧ w = wr)
  case atStart => exact ⟨i, 0, 0, hi, Nat.zero_le _, rfl, rfl, rfl, rfl, HR.out, rfl⟩
  case round =>
    obtain ⟨a, o, d, ha, hd, rfl, rfl, rfl, rfl, h, rfl⟩ := hrel
    have H := Lib.hid h
    clear h
    by_cases hlt : a < s.size
    · cases ho : opens s a
      · have HO := Lib.hid ho
        clear ho
        by_cases hd0 : 0 < d
        · cases hsh : shuts s a
          · have HS := Lib.hid hsh
            clear hsh
            go_wp2_with (first | ((with_reducible refine (has_open s a ha _ HO.out _).mono ?_); rintro e w' ⟨rfl, rfl⟩) | ((with_reducible refine (has_shut s a ha _ HS.out _).mono ?_); rintro e w' ⟨rfl, rfl⟩))
            go_roundg (s.size - (a + 1))
            case rel => exact ⟨a + 1, o, d, by omega, by omega, rfl, by go_num, rfl, rfl, (skAt_next hlt HO.out HS.out hd0).trans H.out, rfl⟩
            case measure => omega
          · have HS := Lib.hid hsh
            clear hsh
            have h2 := shuts_lt HS.out
            go_wp2_with (first | ((with_reducible refine (has_open s a ha _ HO.out _).mono ?_); rintro e w' ⟨rfl, rfl⟩) | ((with_reducible refine (has_shut s a ha _ HS.out _).mono ?_); rintro e w' ⟨rfl, rfl⟩))
            go_roundg (s.size - (a + 2))
            case rel => exact ⟨a + 2, o, d - 1, by omega, by omega, rfl, by go_num, rfl, by congr 1; omega, (skAt_shut HS.out hd0).trans H.out, rfl⟩
            case measure => omega
        · obtain rfl : d = 0 := by omega
          have hc := bt_lt hlt
          cases hb : bl (bt s a)
          · have HB := Lib.hid (bt_in hlt ▸ hb)
            have hb' := Lib.hid hb
            clear hb
            go_wp2_with (first | ((with_reducible refine (has_open s a ha _ HO.out _).mono ?_); rintro e w' ⟨rfl, rfl⟩) | (go_at_call 30; refine (isBlank_is _ (UInt8.toNat_lt _) _ HB.out _).mono ?_; rintro e w' ⟨rfl, rfl⟩))
            try rw [Exit.noGoto_ret]
            go_ret2
            exact ⟨ret_sk (by rw [← H.out, skAt, if_pos rfl, sk_stop hb'.out HO.out]), rfl⟩
          · have HB := Lib.hid (bt_in hlt ▸ hb)
            have hb' := Lib.hid hb
            clear hb
            go_wp2_with (first | ((with_reducible refine (has_open s a ha _ HO.out _).mono ?_); rintro e w' ⟨rfl, rfl⟩) | (go_at_call 30; refine (isBlank_is _ (UInt8.toNat_lt _) _ HB.out _).mono ?_; rintro e w' ⟨rfl, rfl⟩))
            go_roundg (s.size - (a + 1))
            case rel => exact ⟨a + 1, o, 0, by omega, by omega, rfl, by go_num, rfl, rfl, by rw [← H.out, skAt, if_pos rfl, skAt, if_pos rfl, sk_blank hb'.out], rfl⟩
            case measure => omega
      · have HO := Lib.hid ho
        clear ho
        have h2 := opens_lt HO.out
        by_cases hd0 : 0 < d
        · go_wp2_with (first | ((with_reducible refine (has_open s a ha _ HO.out _).mono ?_); rintro e w' ⟨rfl, rfl⟩))
          go_roundg (s.size - (a + 2))
          case rel => exact ⟨a + 2, o, d + 1, by omega, by omega, rfl, by go_num, rfl, by go_num, (skAt_more HO.out hd0).trans H.out, rfl⟩
          case measure => omega
        · obtain rfl : d = 0 := by omega
          go_wp2_with (first | ((with_reducible refine (has_open s a ha _ HO.out _).mono ?_); rintro e w' ⟨rfl, rfl⟩))
          go_roundg (s.size - (a + 2))
          case rel => exact ⟨a + 2, a, 1, by omega, by omega, rfl, by go_num, rfl, rfl, (skAt_open HO.out).trans H.out, rfl⟩
          case measure => omega
    · obtain rfl : a = s.size := by omega
      by_cases hd0 : 0 < d
      · go_wp2
        try rw [Exit.noGoto_ret]
        go_ret2
        exact ⟨ret_sk (by rw [← H.out, skAt, if_neg (by omega), if_pos (cm_out hlt)]), rfl⟩
      · obtain rfl : d = 0 := by omega
        go_wp2
        try rw [Exit.noGoto_ret]
        go_ret2
        exact ⟨ret_sk (by rw [← H.out, skAt, if_pos rfl, sk_end hlt]), rfl⟩
end Go.Proofs.YtkogfdbmgdajdaaDoor
