/-
  CONTRACTS OF num.Read AND OF THE REFERENCE's Read, and that a number's numeral is read as the number.
-/
import Derived.Test.YtbfocgeaikchmaaDoorShow
namespace Go.Proofs.YtbfocgeaikchmaaDoor
open Go.ChangeShapes Go.WideShapes Go.ChangeAt Go.RowKit

/-! ### Numerals -/
def isDig (c : UInt8) : Bool := decide (48 ≤ c.toNat) && decide (c.toNat ≤ 57)
theorem isDig_yes {c : UInt8} (h1 : 48 ≤ c.toNat) (h2 : c.toNat ≤ 57) : isDig c = true := by unfold isDig; simp [h1, h2]
theorem isDig_no {c : UInt8} (h : ¬ (48 ≤ c.toNat ∧ c.toNat ≤ 57)) : isDig c = false := by
  unfold isDig
  by_cases h1 : 48 ≤ c.toNat
  · have h2 : ¬ c.toNat ≤ 57 := fun h2 => h ⟨h1, h2⟩
    simp [h2]
  · simp [h1]
theorem isDig_of {c : UInt8} (h : isDig c = true) : 48 ≤ c.toNat ∧ c.toNat ≤ 57 := by unfold isDig at h; simpa using h
/-- A numeral without a sign and without leading noughts. -/
def form (l : List UInt8) : Bool := l.all isDig && (l == [48] || (!l.isEmpty && l.headD 0 != 48))
theorem take_snoc (s : ByteArray) (k : Nat) (h : k < s.size) : s.data.toList.take (k + 1) = s.data.toList.take k ++ [s[k]] := by
  rw [List.take_succ_eq_append_getElem (by simpa using h)]; rfl
theorem all_snoc {s : ByteArray} {k : Nat} (h : k < s.size) (h0 : (s.data.toList.take k).all isDig = true) (h1 : 48 ≤ s[k].toNat) (h2 : s[k].toNat ≤ 57) : (s.data.toList.take (k + 1)).all isDig = true := by
  rw [take_snoc s k h, List.all_append, h0, List.all_cons, isDig_yes h1 h2]; rfl
theorem all_end {s : ByteArray} {k : Nat} (h : ¬ k < s.size) (h0 : (s.data.toList.take k).all isDig = true) : s.data.toList.all isDig = true := by
  rwa [List.take_of_length_le (by simp; omega)] at h0
theorem all_not {s : ByteArray} {k : Nat} (h : k < s.size) (h1 : ¬ (48 ≤ s[k].toNat ∧ s[k].toNat ≤ 57)) : s.data.toList.all isDig = false := by
  apply Bool.eq_false_iff.2
  intro ha
  have := List.all_eq_true.1 ha s[k] (List.getElem_mem (l := s.data.toList) (by simpa using h))
  rw [isDig_no h1] at this
  cases this
theorem form_not {s : ByteArray} {k : Nat} (h : k < s.size) (h1 : ¬ (48 ≤ s[k].toNat ∧ s[k].toNat ≤ 57)) : form s.data.toList = false := by unfold form; rw [all_not h h1]; rfl
theorem form_empty {s : ByteArray} (h : s.toList = []) : form s.data.toList = false := by rw [ByteArray.toList_eq] at h; rw [h]; rfl
theorem form_nought {s : ByteArray} (h : s.toList = [48]) : form s.data.toList = true := by rw [ByteArray.toList_eq] at h; rw [h]; rfl
theorem form_some {s : ByteArray} (h : 0 < s.size) (ha : s.data.toList.all isDig = true) : (s.toList == [48] || (!s.toList.isEmpty && ((s[0].toNat : Int) != 48))) = form s.data.toList := by
  unfold form
  rw [ByteArray.toList_eq, ha]
  have e : s.data.toList.headD 0 = s[0] := by
    rw [List.headD_eq_head?_getD, List.head?_eq_getElem?, List.getElem?_eq_getElem (by simpa using h)]; rfl
  rw [e, Bool.true_and]
  congr 2
  rw [Bool.eq_iff_iff]
  simp only [bne_iff_ne, ne_eq]
  constructor
  · intro h1 h2; rw [h2] at h1; exact h1 rfl
  · intro h1 h2
    apply h1
    apply UInt8.toNat_inj.1
    show s[0].toNat = 48
    omega
theorem ret_bool {a b : Bool} (h : a = b) : Ending.returned (.bool a) = .returned (.bool b) := by rw [h]

theorem areDigits_any (s : ByteArray) (w : World) (hs : s.size ≤ maxLen) :
    Calls Tryd.prog 14 #[.string s] w fun e w' => e = .returned (.bool (form s.data.toList)) ∧ w = w' := by
  unfold maxLen at hs
  go_enter Tryd.func14, Tryd.ntmps14
  go_wp2
  go_loop [6] (fun i => ∃ k : Nat, k ≤ s.size ∧ i = .int .i64 k ∧ (s.data.toList.take k).all isDig = true) (fun i => s.size - (intOf i).toNat)
  case atStart => exact ⟨0, Nat.zero_le _, rfl, rfl⟩
  case round =>
    obtain ⟨k, hk, rfl, hd⟩ := hrel
    have HD := Lib.hid hd
    clear hd
    by_cases hlt : k < s.size
    · by_cases h1 : 48 ≤ s[k].toNat
      · by_cases h2 : s[k].toNat ≤ 57
        · go_wp2
          go_round
          case rel => exact ⟨k + 1, by omega, by go_num, all_snoc hlt HD.out h1 h2⟩
          case measure => simp [intOf]; omega
        · go_wp2
          go_ret
          exact ⟨ret_bool (form_not hlt (fun h => h2 h.2)).symm, rfl⟩
      · have h1' : s[k].toNat < 48 := by omega
        have hn := Lib.hid h1
        clear h1
        go_wp2
        go_ret
        exact ⟨ret_bool (form_not hlt (fun h => hn.out h.1)).symm, rfl⟩
    · have HA := Lib.hid (all_end hlt HD.out)
      by_cases hz : 0 < s.size
      · go_wp2
        all_goals go_ret
        all_goals first | exact ⟨ret_bool (form_empty (by assumption)).symm, rfl⟩ | exact ⟨ret_bool (form_nought (by assumption)).symm, rfl⟩ | exact ⟨ret_bool (form_some (by assumption) HA.out), rfl⟩
      · have he : s.toList = [] := by
          rw [ByteArray.toList_eq]
          exact List.eq_nil_of_length_eq_zero (by rw [Array.length_toList]; show s.size = 0; omega)
        have hf := Lib.hid (form_empty he)
        have h48 : ¬ s.toList = [48] := by rw [he]; exact fun h => by cases h
        go_wp2
        go_ret
        exact ⟨ret_bool hf.out.symm, rfl⟩

def val (l : List UInt8) : Int := l.foldl (fun a c => 10 * a + ((c.toNat : Int) - 48)) 0
theorem val_snoc (l : List UInt8) (c : UInt8) : val (l ++ [c]) = 10 * val l + ((c.toNat : Int) - 48) := by unfold val; rw [List.foldl_append]; rfl
theorem fold_ge : ∀ (m : List UInt8) (a : Int), 0 ≤ a → m.all isDig = true → a ≤ m.foldl (fun a c => 10 * a + ((c.toNat : Int) - 48)) a
  | [], a, _, _ => Int.le_refl a
  | c :: m, a, h0, h => by
    rw [List.all_cons, Bool.and_eq_true] at h
    have hc := isDig_of h.1
    have := fold_ge m (10 * a + ((c.toNat : Int) - 48)) (by omega) h.2
    rw [List.foldl_cons]
    omega
theorem val_nonneg (l : List UInt8) (h : l.all isDig = true) : 0 ≤ val l := fold_ge l 0 (Int.le_refl 0) h
theorem val_more (l m : List UInt8) (h : (l ++ m).all isDig = true) : val l ≤ val (l ++ m) := by
  rw [List.all_append, Bool.and_eq_true] at h
  have := fold_ge m (val l) (val_nonneg l h.1) h.2
  unfold val at *
  rw [List.foldl_append]
  exact this
theorem val_take (l : List UInt8) (k : Nat) (h : l.all isDig = true) : val (l.take k) ≤ val l := by
  have := val_more (l.take k) (l.drop k) (by rwa [List.take_append_drop])
  rwa [List.take_append_drop] at this
theorem take_digs {l : List UInt8} (k : Nat) (h : l.all isDig = true) : (l.take k).all isDig = true := by
  rw [← List.take_append_drop k l, List.all_append, Bool.and_eq_true] at h
  exact h.1
theorem dig_at {s : ByteArray} {k : Nat} (h : k < s.size) (ha : s.data.toList.all isDig = true) : 48 ≤ s[k].toNat ∧ s[k].toNat ≤ 57 :=
  isDig_of (List.all_eq_true.1 ha s[k] (List.getElem_mem (l := s.data.toList) (by simpa using h)))
theorem val_at {s : ByteArray} {k : Nat} (h : k < s.size) : val (s.data.toList.take (k + 1)) = 10 * val (s.data.toList.take k) + ((s[k].toNat : Int) - 48) := by rw [take_snoc s k h, val_snoc]
theorem val_end {s : ByteArray} {k : Nat} (h : ¬ k < s.size) : val (s.data.toList.take k) = val s.data.toList := by rw [List.take_of_length_le (by simp; omega)]
theorem form_digs {l : List UInt8} (h : form l = true) : l.all isDig = true := by unfold form at h; exact (Bool.and_eq_true _ _ ▸ h).1

/-- What Read returns: the error and the number. -/
def rdE (l : List UInt8) (most : Int) : Int := if form l = true then (if most < val l then 2 else 0) else 3
def rdV (l : List UInt8) (most : Int) : Int := if form l = true then (if most < val l then 0 else val l) else 0
theorem rd_form {l : List UInt8} {most : Int} (h : form l = false) : rdE l most = 3 ∧ rdV l most = 0 := by unfold rdE rdV; rw [h]; exact ⟨rfl, rfl⟩
theorem rd_range {l : List UInt8} {most : Int} (h : form l = true) (h2 : most < val l) : rdE l most = 2 ∧ rdV l most = 0 := by unfold rdE rdV; rw [if_pos h, if_pos h2, if_pos h, if_pos h2]; exact ⟨rfl, rfl⟩
theorem rd_ok {l : List UInt8} {most : Int} (h : form l = true) (h2 : ¬ most < val l) : rdE l most = 0 ∧ rdV l most = val l := by unfold rdE rdV; rw [if_pos h, if_neg h2, if_pos h, if_neg h2]; exact ⟨rfl, rfl⟩
theorem ret_rd {a b : Int} {l : List UInt8} {most : Int} (h : rdE l most = b ∧ rdV l most = a) : Ending.returned (.tuple #[.int .i64 a, .int .i64 b]) = .returned (.tuple #[.int .i64 (rdV l most), .int .i64 (rdE l most)]) := by rw [h.1, h.2]
theorem areDigits_is (s : ByteArray) (w : World) (hs : s.size ≤ maxLen) {b : Bool} (h : form s.data.toList = b) :
    Calls Tryd.prog 14 #[.string s] w fun e w' => e = .returned (.bool b) ∧ w = w' := by
  subst h; exact areDigits_any s w hs

theorem read_any (s : ByteArray) (most : Int) (w : World) (hs : s.size ≤ maxLen) (hm : most ≤ 9223372036854775807) :
    Calls Tryd.prog 5 #[.string s, .int .i64 most] w fun e w' => e = .returned (.tuple #[.int .i64 (rdV s.data.toList most), .int .i64 (rdE s.data.toList most)]) ∧ w = w' := by
  have hs' := hs
  unfold maxLen at hs
  cases hf : form s.data.toList with
  | false =>
    have Hf := Lib.hid hf
    clear hf
    go_enter Tryd.func5, Tryd.ntmps5
    go_wp2_with (go_at_call 14; refine (areDigits_is _ _ hs' Hf.out).mono ?_; rintro e w' ⟨rfl, rfl⟩)
    go_ret2
    exact ⟨ret_rd (rd_form Hf.out), rfl⟩
  | true =>
    have Hf := Lib.hid hf
    have HA := Lib.hid (form_digs hf)
    clear hf
    go_enter Tryd.func5, Tryd.ntmps5
    go_wp2_with (go_at_call 14; refine (areDigits_is _ _ hs' Hf.out).mono ?_; rintro e w' ⟨rfl, rfl⟩)
    go_loop [14, 6] (fun i n => ∃ k : Nat, k ≤ s.size ∧ i = .int .i64 k ∧ n = .int .i64 (val (s.data.toList.take k)) ∧ val (s.data.toList.take k) ≤ 9223372036854775807) (fun i _ => s.size - (intOf i).toNat)
    case atStart => exact ⟨0, Nat.zero_le _, rfl, rfl, (by omega : (0 : Int) ≤ 9223372036854775807)⟩
    case round =>
      obtain ⟨k, hk, rfl, rfl, hle⟩ := hrel
      have h0 : 0 ≤ val (s.data.toList.take k) := val_nonneg _ (take_digs k HA.out)
      by_cases hlt : k < s.size
      · obtain ⟨h1, h2⟩ := dig_at hlt HA.out
        have HV := Lib.hid (val_at hlt)
        have HT := Lib.hid (val_take s.data.toList (k + 1) HA.out)
        by_cases hov : 10 * val (s.data.toList.take k) + ((s[k].toNat : Int) - 48) ≤ 9223372036854775807
        · go_wp2
          go_round
          case rel => exact ⟨k + 1, by omega, by go_num, by rw [HV.out], by rw [HV.out]; exact hov⟩
          case measure => simp [intOf]; omega
        · go_wp2
          go_ret2
          exact ⟨ret_rd (rd_range Hf.out (by have := HV.out; have := HT.out; omega)), rfl⟩
      · have HE := Lib.hid (val_end hlt)
        by_cases hm : most < val (s.data.toList.take k)
        · go_wp2
          go_ret2
          exact ⟨ret_rd (rd_range Hf.out (by have := HE.out; omega)), rfl⟩
        · go_wp2
          go_ret2
          exact ⟨(by rw [HE.out]; exact ret_rd (rd_ok Hf.out (by have := HE.out; omega))), rfl⟩

theorem form_lead {s : ByteArray} (h : 1 < s.size) (h0 : s[0].toNat = 48) : form s.data.toList = false := by
  unfold form
  have e : s.data.toList.headD 0 = s[0] := by
    rw [List.headD_eq_head?_getD, List.head?_eq_getElem?, List.getElem?_eq_getElem (by rw [Array.length_toList]; exact Nat.lt_trans Nat.zero_lt_one h)]; rfl
  have e2 : s[0] = 48 := UInt8.toNat_inj.1 h0
  have e3 : (s.data.toList == [48]) = false := by
    apply Bool.eq_false_iff.2
    intro hh
    have := congrArg List.length (eq_of_beq hh)
    rw [Array.length_toList] at this
    have h2 : s.size = 1 := this
    omega
  rw [e, e2, e3, show ((48 : UInt8) != 48) = false from rfl, Bool.and_false, Bool.or_false, Bool.and_false]
theorem form_good {s : ByteArray} (h : 0 < s.size) (hc : s.size ≤ 1 ∨ ¬ s[0].toNat = 48) (ha : s.data.toList.all isDig = true) : form s.data.toList = true := by
  rw [← form_some h ha]
  by_cases h48 : s[0].toNat = 48
  · have h1 : s.size = 1 := by
      rcases hc with hc | hc
      · omega
      · exact absurd h48 hc
    have e : s.toList = [48] := by
      rw [ByteArray.toList_eq]
      apply List.ext_getElem
      · rw [Array.length_toList]; exact h1
      · intro i hi1 hi2
        have hi : i = 0 := by simp at hi2; exact hi2
        subst hi
        exact UInt8.toNat_inj.1 h48
    rw [e]; rfl
  · have hne : s.toList.isEmpty = false := by
      rw [ByteArray.toList_eq]
      apply Bool.eq_false_iff.2
      intro hh
      have := List.isEmpty_iff.1 hh
      have h2 := congrArg List.length this
      rw [Array.length_toList] at h2
      have h3 : s.size = 0 := h2
      omega
    have hb : ((s[0].toNat : Int) != 48) = true := by simp; omega
    rw [hne, hb]; simp

theorem rread_any (s : ByteArray) (most : Int) (w : World) (hs : s.size ≤ maxLen) (hm0 : -9223372036854775808 ≤ most) (hm : most ≤ 9223372036854775807) :
    Calls Tryd.prog 6 #[.string s, .int .i64 most] w fun e w' => e = .returned (.tuple #[.int .i64 (rdV s.data.toList most), .int .i64 (rdE s.data.toList most)]) ∧ w = w' := by
  unfold maxLen at hs
  by_cases hz : 0 < s.size
  · have hz0 : ((s.size : Int) == 0) = false := Bool.eq_false_iff.2 (fun h => by have := eq_of_beq h; omega)
    by_cases hl : 1 < s.size ∧ s[0].toNat = 48
    · obtain ⟨hl1, hl2⟩ := hl
      have HF := Lib.hid (form_lead hl1 hl2)
      have hb : ((s[0].toNat : Int) == 48) = true := by simp; omega
      clear hl2
      go_enter Tryd.func6, Tryd.ntmps6
      go_wp2
      go_ret2
      exact ⟨ret_rd (rd_form HF.out), rfl⟩
    · have hc : s.size ≤ 1 ∨ (1 < s.size ∧ ¬ s[0].toNat = 48) := by omega
      have HG := Lib.hid (fun ha => form_good hz (by omega : s.size ≤ 1 ∨ ¬ s[0].toNat = 48) ha)
      clear hl
      have hc' : (s.size ≤ 1) ∨ (1 < s.size ∧ ((s[0].toNat : Int) == 48) = false) := by
        rcases hc with hc | ⟨h1, h2⟩
        · exact .inl hc
        · exact .inr ⟨h1, by simp; omega⟩
      clear hc
      rcases hc' with hc | ⟨hc, hb⟩
      all_goals
        go_enter Tryd.func6, Tryd.ntmps6
        go_wp2
        go_loop [6] (fun i => ∃ k : Nat, k ≤ s.size ∧ i = .int .i64 k ∧ (s.data.toList.take k).all isDig = true) (fun i => s.size - (intOf i).toNat)
        case atStart => exact ⟨0, Nat.zero_le _, rfl, rfl⟩
        case round =>
          obtain ⟨k, hk, rfl, hd⟩ := hrel
          have HD := Lib.hid hd
          clear hd
          by_cases hlt : k < s.size
          · by_cases h1 : 48 ≤ s[k].toNat
            · by_cases h2 : s[k].toNat ≤ 57
              · go_wp2
                go_round
                case rel => exact ⟨k + 1, by omega, by go_num, all_snoc hlt HD.out h1 h2⟩
                case measure => simp [intOf]; omega
              · go_wp2
                go_ret2
                exact ⟨ret_rd (rd_form (form_not hlt (fun h => h2 h.2))), rfl⟩
            · have h1' : s[k].toNat < 48 := by omega
              have hn := Lib.hid h1
              clear h1
              go_wp2
              go_ret2
              exact ⟨ret_rd (rd_form (form_not hlt (fun h => hn.out h.1))), rfl⟩
          · have HA := Lib.hid (all_end hlt HD.out)
            have HF := Lib.hid (HG.out HA.out)
            go_wp2
            go_loop [8, 7] (fun i n => ∃ k : Nat, k ≤ s.size ∧ i = .int .i64 k ∧ n = .int .i64 (val (s.data.toList.take k)) ∧ (1 ≤ k → val (s.data.toList.take k) ≤ most)) (fun i _ => s.size - (intOf i).toNat)
            case atStart => exact ⟨0, Nat.zero_le _, rfl, rfl, fun h => by omega⟩
            case round =>
              obtain ⟨j, hj, rfl, rfl, hle⟩ := hrel
              have Hle := Lib.hid hle
              clear hle
              have h0 : 0 ≤ val (s.data.toList.take j) := val_nonneg _ (take_digs j HA.out)
              by_cases hlj : j < s.size
              · obtain ⟨h1, h2⟩ := dig_at hlj HA.out
                have HV := Lib.hid (val_at hlj)
                have HT := Lib.hid (val_take s.data.toList (j + 1) HA.out)
                by_cases hd : most < ((s[j].toNat : Int) - 48)
                · go_wp2
                  go_ret2
                  exact ⟨ret_rd (rd_range HF.out (by have := HV.out; have := HT.out; omega)), rfl⟩
                · by_cases hov : 10 * val (s.data.toList.take j) + ((s[j].toNat : Int) - 48) ≤ most
                  · go_wp2
                    go_round
                    case rel => exact ⟨j + 1, by omega, by go_num, by rw [HV.out], fun _ => by rw [HV.out]; exact hov⟩
                    case measure => simp [intOf]; omega
                  · go_wp2
                    go_ret2
                    exact ⟨ret_rd (rd_range HF.out (by have := HV.out; have := HT.out; omega)), rfl⟩
              · have HE := Lib.hid (val_end hlj)
                go_wp2
                go_ret2
                exact ⟨(by rw [HE.out]; exact ret_rd (rd_ok HF.out (by have := HE.out; have := Hle.out (by omega); omega))), rfl⟩
  · have he : s.toList = [] := by
      rw [ByteArray.toList_eq]
      exact List.eq_nil_of_length_eq_zero (by rw [Array.length_toList]; show s.size = 0; omega)
    have HF := Lib.hid (form_empty he)
    clear he
    have hz0 : ((s.size : Int) == 0) = true := beq_iff_eq.2 (by omega)
    go_enter Tryd.func6, Tryd.ntmps6
    go_wp2
    go_ret2
    exact ⟨ret_rd (rd_form HF.out), rfl⟩

/-! ### The numeral of a number, read again -/
def shw (n : Int) : ByteArray := ⟨(Lib.itoa n).toArray⟩
theorem shw_data (n : Int) : (shw n).data.toList = Lib.itoa n := by simp [shw]
theorem shw_size (n : Int) : (shw n).size = (Lib.itoa n).length := by show (Lib.itoa n).toArray.size = _; simp
theorem shw_le (n : Int) (h0 : -9223372036854775808 ≤ n) (h1 : n ≤ 9223372036854775807) : (shw n).size ≤ maxLen := by
  rw [shw_size]; have := Lib.itoa_length_le n h0 h1; unfold maxLen; omega
theorem dig_byte (i : Nat) (h : i < 10) : isDig (UInt8.ofNat (48 + i)) = true ∧ ((UInt8.ofNat (48 + i)).toNat : Int) - 48 = i := by
  have e : (UInt8.ofNat (48 + i)).toNat = 48 + i := by rw [UInt8.toNat_ofNat']; omega
  exact ⟨isDig_yes (by omega) (by omega), by rw [e]; omega⟩
theorem dec_digs (u : Nat) : (Lib.decDigits u).all isDig = true ∧ val (Lib.decDigits u) = u := by
  induction u using Nat.strongRecOn with
  | _ u ih =>
    rw [Lib.decDigits]
    by_cases h : u < 10
    · rw [dif_pos h]
      obtain ⟨h1, h2⟩ := dig_byte u h
      exact ⟨by rw [List.all_cons, h1]; rfl, by show 10 * 0 + _ = _; omega⟩
    · rw [dif_neg h]
      obtain ⟨h1, h2⟩ := dig_byte (u % 10) (by omega)
      obtain ⟨h3, h4⟩ := ih (u / 10) (by omega)
      exact ⟨by rw [List.all_append, h3, List.all_cons, h1]; rfl, by rw [val_snoc, h4]; omega⟩
theorem dec_head (u : Nat) (h0 : 0 < u) : ∃ c l, Lib.decDigits u = c :: l ∧ c ≠ 48 := by
  induction u using Nat.strongRecOn with
  | _ u ih =>
    rw [Lib.decDigits]
    by_cases h : u < 10
    · rw [dif_pos h]
      refine ⟨_, [], rfl, fun e => ?_⟩
      have := (dig_byte u h).2
      rw [e] at this
      have e2 : ((48 : UInt8).toNat : Int) = 48 := rfl
      omega
    · rw [dif_neg h]
      obtain ⟨c, l, e, hc⟩ := ih (u / 10) (by omega) (by omega)
      exact ⟨c, l ++ [UInt8.ofNat (48 + u % 10)], by rw [e]; rfl, hc⟩
theorem dec_form (u : Nat) : form (Lib.decDigits u) = true := by
  unfold form
  rw [(dec_digs u).1, Bool.true_and]
  by_cases h : u = 0
  · subst h; rw [Lib.decDigits_one (by omega)]; rfl
  · obtain ⟨c, l, e, hc⟩ := dec_head u (by omega)
    have hb : (c != 48) = true := by simpa using hc
    rw [e]; simp [hb]
theorem shw_read (n : Int) (h : 0 ≤ n) : rdE (shw n).data.toList n = 0 ∧ rdV (shw n).data.toList n = n := by
  obtain ⟨u, rfl⟩ : ∃ u : Nat, n = (u : Int) := ⟨n.toNat, by omega⟩
  have hv := (dec_digs u).2
  rw [shw_data, Lib.itoa_nonneg]
  have := rd_ok (most := (u : Int)) (dec_form u) (by omega)
  exact ⟨this.1, this.2.trans hv⟩
theorem shw_neg_size (n : Int) (h : n < 0) : 1 < (shw n).size := by
  obtain ⟨u, rfl⟩ : ∃ u : Nat, n = -(u : Int) := ⟨n.natAbs, by omega⟩
  rw [shw_size, Lib.itoa_neg u (by omega), List.length_cons, Lib.decDigits_length]
  have := Lib.nDigits_pos u
  omega
theorem shw_neg_head (n : Int) (h : n < 0) (h0 : 0 < (shw n).size) : (shw n)[0].toNat = 45 := by
  obtain ⟨u, rfl⟩ : ∃ u : Nat, n = -(u : Int) := ⟨n.natAbs, by omega⟩
  have e : (shw (-(u : Int))).data.toList = 45 :: Lib.decDigits u := by rw [shw_data, Lib.itoa_neg u (by omega)]
  have e2 : (shw (-(u : Int)))[0] = (shw (-(u : Int))).data.toList[0]'(by rw [e]; simp) := by rw [Array.getElem_toList]; rfl
  rw [e2]
  have e3 : (shw (-(u : Int))).data.toList[0]'(by rw [e]; simp) = 45 := by simp [e]
  rw [e3]; rfl
theorem show_shw (x : Int) (w : World) (h0 : -9223372036854775808 ≤ x) (h1 : x ≤ 9223372036854775807) (ht : Pow10 w) :
    Calls Tryd.prog 7 #[.int .i64 x] w fun e w' => e = .returned (.string (shw x)) ∧ Below w.heap.size w w' := show_any x w h0 h1 ht
theorem rshow_shw (x : Int) (w : World) (h0 : -9223372036854775808 ≤ x) (h1 : x ≤ 9223372036854775807) :
    Calls Tryd.prog 8 #[.int .i64 x] w fun e w' => e = .returned (.string (shw x)) ∧ Below w.heap.size w w' := rshow_any x w h0 h1
theorem read_shw (x : Int) (w : World) (h0 : -9223372036854775808 ≤ x) (h1 : x ≤ 9223372036854775807) (h : 0 ≤ x) :
    Calls Tryd.prog 5 #[.string (shw x), .int .i64 x] w fun e w' => e = .returned (.tuple #[.int .i64 x, .int .i64 0]) ∧ w = w' :=
  (read_any (shw x) x w (shw_le x h0 h1) h1).mono fun _ _ ⟨he, hw⟩ => ⟨he.trans (by rw [(shw_read x h).1, (shw_read x h).2]), hw⟩
end Go.Proofs.YtbfocgeaikchmaaDoor
