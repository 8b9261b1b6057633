/-
  THE REFERENCE's NAMES.
-/
import Derived.Test.YtgdclchpccbifaaTree
import Derived.Test.YtgdclchpccbifaaNmM
import Derived.Test.YtgdclchpccbifaaChecked
import Derived.Calls
import Derived.LoopTactic
import Derived.WalkKit
import Derived.WalkSpells
import Derived.WalkLawsBesides
import Derived.Outline
namespace Go.Proofs.Ytgdclchpccbifaa
open Go.ChangeShapes Go.WideShapes Go.ChangeAt Go.RowKit
set_option linter.unusedVariables false
theorem bytes_eq (a b : ByteArray) : a.toList = b.toList ↔ a = b := by
  constructor
  · intro h
    rw [ByteArray.toList_eq, ByteArray.toList_eq] at h
    exact ByteArray.ext (Array.toList_inj.1 h)
  · rintro rfl; rfl
theorem rest_any (c : Nat) (hc : c < 256) (b : Bool) (hb : restB c = b) (w : World) : Calls Try.prog 86 #[.int .u8 c] w fun e w' => e = .returned (.bool b) ∧ w = w' := by
  have HB := Lib.hid hb
  clear hb
  go_enter Try.func86, Try.ntmps86
  go_wp2
  all_goals go_ret
  all_goals refine ⟨ret_bool ?_, rfl⟩
  all_goals (rw [← HB.out]; unfold restB)
  all_goals (rw [Bool.eq_iff_iff]; simp; omega)
theorem letter_any (c : Nat) (hc : c < 256) (cap : Bool) (b : Bool) (hb : letB c cap = b) (w : World) : Calls Try.prog 85 #[.int .u8 c, .bool cap] w fun e w' => e = .returned (.bool b) ∧ w = w' := by
  have HB := Lib.hid hb
  clear hb
  cases cap
  all_goals
    go_enter Try.func85, Try.ntmps85
    go_wp2
  all_goals go_ret
  all_goals refine ⟨ret_bool ?_, rfl⟩
  all_goals (rw [← HB.out]; unfold letB)
  all_goals (rw [Bool.eq_iff_iff]; simp; try omega)
theorem all_upto {s : ByteArray} {k : Nat} (h : ∀ i, 1 ≤ i → i < k → restB (bt s i) = true) (hk : k = s.size) : ((List.range s.size).all fun i => i == 0 || restB (bt s i)) = true := by
  rw [List.all_eq_true]
  intro i hi
  have := List.mem_range.1 hi
  by_cases h0 : i = 0
  · simp [h0]
  · rw [h i (by omega) (by omega)]; simp
theorem not_all {s : ByteArray} {k : Nat} (h1 : 1 ≤ k) (h2 : k < s.size) (h : restB (bt s k) = false) : ((List.range s.size).all fun i => i == 0 || restB (bt s i)) = false := by
  rw [Bool.eq_false_iff]
  intro ha
  have := List.all_eq_true.1 ha k (List.mem_range.2 h2)
  simp [h, show k ≠ 0 by omega] at this
set_option maxHeartbeats 1000000 in
theorem shaped_any (s : ByteArray) (hs : s.size ≤ 1048576) (cap : Bool) (b : Bool) (hb : shapedB s cap = b) (w : World) : Calls Try.prog 79 #[.string s, .bool cap] w fun e w' => e = .returned (.bool b) ∧ w = w' := by
  have HB := Lib.hid hb
  clear hb
  by_cases h1 : 1 ≤ s.size
  case neg =>
    have q1 : ((s.size : Int) < 1) := by omega
    have e : b = false := by rw [← HB.out]; simp [shapedB, show ¬ 1 ≤ s.size from h1]
    subst e
    go_enter Try.func79, Try.ntmps79
    go_wp2
    go_ret
    exact ⟨rfl, rfl⟩
  by_cases h2 : s.size ≤ 32
  case neg =>
    have q1 : (32 < (s.size : Int)) := by omega
    have e : b = false := by rw [← HB.out]; simp [shapedB, h2]
    subst e
    go_enter Try.func79, Try.ntmps79
    go_wp2
    go_ret
    exact ⟨rfl, rfl⟩
  have h0 : 0 < s.size := h1
  have hbt := bt_in h0
  have hlt : s[0].toNat < 256 := UInt8.toNat_lt _
  cases hl : letB (bt s 0) cap
  case false =>
    have HL := Lib.hid (hbt ▸ hl)
    have e : b = false := by rw [← HB.out]; simp [shapedB, hl]
    subst e
    clear hbt hl
    go_enter Try.func79, Try.ntmps79
    go_wp2_with (go_at_call 85; refine (letter_any _ hlt _ _ HL.out _).mono ?_; rintro e w' ⟨rfl, rfl⟩)
    go_ret
    exact ⟨rfl, rfl⟩
  have HL := Lib.hid (hbt ▸ hl)
  have HE : Hid (shapedB s cap = ((List.range s.size).all fun i => i == 0 || restB (bt s i))) := Lib.hid (by simp only [shapedB, h1, h2, hl, decide_true, Bool.true_and])
  clear hbt hl
  go_enter Try.func79, Try.ntmps79
  go_wp2_with (go_at_call 85; refine (letter_any _ hlt _ _ HL.out _).mono ?_; rintro e w' ⟨rfl, rfl⟩)
  go_loop [5] (fun z => ∃ k : Nat, 1 ≤ k ∧ k ≤ s.size ∧ z = .int .i64 k ∧ ∀ i, 1 ≤ i → i < k → restB (bt s i) = true) (fun z => s.size - (intOf z).toNat)
  case atStart => exact ⟨1, Nat.le_refl _, h1, rfl, fun i a b => by omega⟩
  case round =>
    obtain ⟨k, hk1, hk, rfl, hall⟩ := hrel
    have HA := Lib.hid hall
    clear hall
    by_cases hkl : k < s.size
    · have hbk := bt_in hkl
      have hlk : s[k].toNat < 256 := UInt8.toNat_lt _
      cases hr : restB (bt s k)
      · have HR := Lib.hid (hbk ▸ hr)
        have HRR := Lib.hid hr
        clear hbk hr
        go_wp2_with (go_at_call 86; refine (rest_any _ hlk _ HR.out _).mono ?_; rintro e w' ⟨rfl, rfl⟩)
        go_ret
        exact ⟨ret_bool (by rw [← HB.out, HE.out, not_all hk1 hkl HRR.out]), rfl⟩
      · have HR := Lib.hid (hbk ▸ hr)
        have HRR := Lib.hid hr
        clear hbk hr
        go_wp2_with (go_at_call 86; refine (rest_any _ hlk _ HR.out _).mono ?_; rintro e w' ⟨rfl, rfl⟩)
        go_round
        case rel => exact ⟨k + 1, by omega, by omega, by go_num, fun i a b => by
          by_cases h : i = k
          · rw [h]; exact HRR.out
          · exact HA.out i a (by omega)⟩
        case measure => simp [intOf]; omega
    · obtain rfl : k = s.size := by omega
      go_wp2
      go_ret
      exact ⟨ret_bool (by rw [← HB.out, HE.out, all_upto HA.out rfl]), rfl⟩
/-- From A on lie the texts of l. -/
def StrsAt (w : World) (B : Nat) (A : Option Addr) (l : List ByteArray) : Prop := ∀ (k : Nat) (x : ByteArray), l[k]? = some x → ∃ b o, A = some ⟨b, o, none⟩ ∧ b < B ∧ w.cell? ⟨b, o + k, none⟩ = some (.string x)
theorem StrsAt.on {w w' : World} {B : Nat} {A : Option Addr} {l : List ByteArray} (h : StrsAt w B A l) (hb : Below B w w') : StrsAt w' B A l := fun k x hx => by
  obtain ⟨b, o, e, hB, hc⟩ := h k x hx
  exact ⟨b, o, e, hB, (hb.cell (p := ⟨b, o + k, none⟩) hB).trans hc⟩
theorem among_any (s : ByteArray) (l : List ByteArray) (A : Option Addr) (c : Nat) (hl : l.length ≤ 1048576) (w : World) (B : Nat) (h : StrsAt w B A l) :
    Calls Try.prog 80 #[.string s, .slice A l.length c] w fun e w' => e = .returned (.bool (l.any fun t => decide (t = s))) ∧ w = w' := by
  have HA := Lib.hid h
  clear h
  go_enter Try.func80, Try.ntmps80
  go_wp2
  go_loop [5] (fun z => ∃ k : Nat, k ≤ l.length ∧ z = .int .i64 k ∧ ((l.take k).any fun t => decide (t = s)) = false) (fun z => l.length - (intOf z).toNat)
  case atStart => exact ⟨0, Nat.zero_le _, rfl, rfl⟩
  case round =>
    obtain ⟨k, hk, rfl, hno⟩ := hrel
    have HN := Lib.hid hno
    clear hno
    by_cases hlt : k < l.length
    · obtain ⟨b, o, rfl, _, hc⟩ := HA.out k _ (List.getElem?_eq_getElem hlt)
      by_cases he : l[k] = s
      · have q : (l[k].toList == s.toList) = true := by rw [he]; simp
        have HE := Lib.hid he
        clear he
        go_wp2
        go_ret
        exact ⟨ret_bool (by
          symm; rw [List.any_eq_true]
          exact ⟨l[k], List.getElem_mem hlt, by simpa using HE.out⟩), rfl⟩
      · have q : (l[k].toList == s.toList) = false := by simpa [bytes_eq] using he
        have HE := Lib.hid he
        clear he
        go_wp2
        go_round
        case rel => exact ⟨k + 1, by omega, by go_num, by
          rw [List.take_succ_eq_append_getElem hlt, List.any_append, HN.out]
          simp [HE.out]⟩
        case measure => simp [intOf]; omega
    · obtain rfl : k = l.length := by omega
      go_wp2
      go_ret
      exact ⟨ret_bool (by have := HN.out; rw [List.take_length] at this; rw [this]), rfl⟩
theorem words_any (w : World) : Calls Try.prog 81 #[] w fun e w' => e = .returned (.slice (some ⟨w.heap.size, 0, none⟩) 24 24) ∧ StrsAt w' w'.heap.size (some ⟨w.heap.size, 0, none⟩) wordsL ∧ Below w.heap.size w w' := by
  go_enter Try.func81, Try.ntmps81
  go_wp2
  go_ret
  refine ⟨rfl, fun k x hx => ⟨w.heap.size, 0, rfl, by simp, ?_⟩, below_new _ _⟩
  rw [Nat.zero_add, cell_of_row _ _ k _ _ _ (heap_alloc_new w _)]
  show (wordsL.map Value.string).toArray[k]? = _
  rw [List.getElem?_toArray, List.getElem?_map, hx]; rfl
theorem str_is (s : ByteArray) (l : List UInt8) : s.toList = l ↔ s = ⟨l.toArray⟩ := by
  rw [ByteArray.toList_eq]
  constructor
  · intro h; exact ByteArray.ext (by rw [← h])
  · rintro rfl; rfl
theorem str_yes {s : ByteArray} {l : List UInt8} (h : s = ⟨l.toArray⟩) : (s.toList == l) = true := by rw [beq_iff_eq]; exact (str_is s l).2 h
theorem str_no {s : ByteArray} {l : List UInt8} (h : s ≠ ⟨l.toArray⟩) : (s.toList == l) = false := by rw [beq_eq_false_iff_ne]; exact fun e => h ((str_is s l).1 e)
theorem low_any (s : ByteArray) (hs : s.size ≤ 1048576) (w : World) : Calls Try.prog 67 #[.string s] w fun e w' => e = .returned (.bool (lowB s)) ∧ Below w.heap.size w w' := by
  have HE : Hid (lowB s = (shapedB s false && decide (s ≠ ⟨#[95]⟩) && decide (s ≠ ⟨#[116, 114, 117, 101]⟩) && decide (s ≠ ⟨#[102, 97, 108, 115, 101]⟩) && !wordsL.any fun t => decide (t = s))) := Lib.hid rfl
  cases h1 : shapedB s false
  case false =>
    have H1 := Lib.hid h1
    clear h1
    go_enter Try.func67, Try.ntmps67
    go_wp2_with (go_at_call 79; refine (shaped_any s hs _ _ H1.out _).mono ?_; rintro e w' ⟨rfl, rfl⟩)
    go_ret
    exact ⟨ret_bool (by rw [HE.out, H1.out]; rfl), Below.refl _ _⟩
  have H1 := Lib.hid h1
  clear h1
  by_cases e1 : s = ⟨#[95]⟩
  case pos =>
    have q := str_yes e1
    have HN := Lib.hid e1
    clear e1
    go_enter Try.func67, Try.ntmps67
    go_wp2_with (go_at_call 79; refine (shaped_any s hs _ _ H1.out _).mono ?_; rintro e w' ⟨rfl, rfl⟩)
    go_ret
    exact ⟨ret_bool (by rw [HE.out]; simp [HN.out]), Below.refl _ _⟩
  have e1' := str_no e1
  have He1 := Lib.hid e1
  clear e1
  by_cases e2 : s = ⟨#[116, 114, 117, 101]⟩
  case pos =>
    have q := str_yes e2
    have HN := Lib.hid e2
    clear e2
    go_enter Try.func67, Try.ntmps67
    go_wp2_with (go_at_call 79; refine (shaped_any s hs _ _ H1.out _).mono ?_; rintro e w' ⟨rfl, rfl⟩)
    go_ret
    exact ⟨ret_bool (by rw [HE.out]; simp [HN.out]), Below.refl _ _⟩
  have e2' := str_no e2
  have He2 := Lib.hid e2
  clear e2
  by_cases e3 : s = ⟨#[102, 97, 108, 115, 101]⟩
  case pos =>
    have q := str_yes e3
    have HN := Lib.hid e3
    clear e3
    go_enter Try.func67, Try.ntmps67
    go_wp2_with (go_at_call 79; refine (shaped_any s hs _ _ H1.out _).mono ?_; rintro e w' ⟨rfl, rfl⟩)
    go_ret
    exact ⟨ret_bool (by rw [HE.out]; simp [HN.out]), Below.refl _ _⟩
  have e3' := str_no e3
  have He3 := Lib.hid e3
  clear e3
  have HE2 : Hid (lowB s = !wordsL.any fun t => decide (t = s)) := Lib.hid (by rw [HE.out, H1.out, decide_eq_true He1.out, decide_eq_true He2.out, decide_eq_true He3.out]; rfl)
  go_enter Try.func67, Try.ntmps67
  go_wp2_with (first | (go_at_call 79; refine (shaped_any s hs _ _ H1.out _).mono ?_; rintro e w' ⟨rfl, rfl⟩) | (go_at_call 81; refine (words_any _).mono ?_; rintro e w1 ⟨rfl, hst, hb⟩; have HST := Lib.hid (And.intro hst hb); clear hst hb) | (go_at_call 80; refine (among_any s wordsL _ 24 (by decide) _ _ HST.out.1).mono ?_; rintro e w' ⟨rfl, rfl⟩))
  go_ret
  exact ⟨ret_bool (by rw [HE2.out]), HST.out.2⟩
/-- How many arguments, at least and at most. -/
theorem args_any (s : ByteArray) (w : World) : Calls Try.prog 68 #[.string s] w fun e w' => e = .returned (.tuple #[.int .i64 (argsB s).1, .int .i64 (argsB s).2]) ∧ w = w' := by
  have HE : Hid (argsB s = (if s = ⟨#[105, 110, 116]⟩ ∨ s = ⟨#[98, 111, 111, 108]⟩ ∨ s = ⟨#[117, 110, 105, 116]⟩ ∨ s = ⟨#[101, 120, 110]⟩ then (0, 0) else if s = ⟨#[114, 101, 102]⟩ then (1, 1) else if s = ⟨#[45, 62]⟩ then (2, 2) else if s = ⟨#[42]⟩ then (2, 8) else (0, 8))) := Lib.hid rfl
  by_cases a1 : s = ⟨#[105, 110, 116]⟩
  case pos =>
    have q := str_yes a1
    have HN := Lib.hid a1
    clear a1
    go_enter Try.func68, Try.ntmps68
    go_wp2
    go_ret2
    exact ⟨by rw [HE.out]; rw [HN.out]; rfl, rfl⟩
  have a1' := str_no a1
  have Ha1 := Lib.hid a1
  clear a1
  by_cases a2 : s = ⟨#[98, 111, 111, 108]⟩
  case pos =>
    have q := str_yes a2
    have HN := Lib.hid a2
    clear a2
    go_enter Try.func68, Try.ntmps68
    go_wp2
    go_ret2
    exact ⟨by rw [HE.out]; rw [HN.out]; rfl, rfl⟩
  have a2' := str_no a2
  have Ha2 := Lib.hid a2
  clear a2
  by_cases a3 : s = ⟨#[117, 110, 105, 116]⟩
  case pos =>
    have q := str_yes a3
    have HN := Lib.hid a3
    clear a3
    go_enter Try.func68, Try.ntmps68
    go_wp2
    go_ret2
    exact ⟨by rw [HE.out]; rw [HN.out]; rfl, rfl⟩
  have a3' := str_no a3
  have Ha3 := Lib.hid a3
  clear a3
  by_cases a4 : s = ⟨#[101, 120, 110]⟩
  case pos =>
    have q := str_yes a4
    have HN := Lib.hid a4
    clear a4
    go_enter Try.func68, Try.ntmps68
    go_wp2
    go_ret2
    exact ⟨by rw [HE.out]; rw [HN.out]; rfl, rfl⟩
  have a4' := str_no a4
  have Ha4 := Lib.hid a4
  clear a4
  by_cases a5 : s = ⟨#[114, 101, 102]⟩
  case pos =>
    have q := str_yes a5
    have HN := Lib.hid a5
    clear a5
    go_enter Try.func68, Try.ntmps68
    go_wp2
    go_ret2
    exact ⟨by rw [HE.out]; rw [HN.out]; rfl, rfl⟩
  have a5' := str_no a5
  have Ha5 := Lib.hid a5
  clear a5
  by_cases a6 : s = ⟨#[45, 62]⟩
  case pos =>
    have q := str_yes a6
    have HN := Lib.hid a6
    clear a6
    go_enter Try.func68, Try.ntmps68
    go_wp2
    go_ret2
    exact ⟨by rw [HE.out]; rw [HN.out]; rfl, rfl⟩
  have a6' := str_no a6
  have Ha6 := Lib.hid a6
  clear a6
  by_cases a7 : s = ⟨#[42]⟩
  case pos =>
    have q := str_yes a7
    have HN := Lib.hid a7
    clear a7
    go_enter Try.func68, Try.ntmps68
    go_wp2
    go_ret2
    exact ⟨by rw [HE.out]; rw [HN.out]; rfl, rfl⟩
  have a7' := str_no a7
  have Ha7 := Lib.hid a7
  clear a7
  go_enter Try.func68, Try.ntmps68
  go_wp2
  go_ret2
  exact ⟨by rw [HE.out, if_neg (by simp [Ha1.out, Ha2.out, Ha3.out, Ha4.out]), if_neg Ha5.out, if_neg Ha6.out, if_neg Ha7.out]; rfl, rfl⟩
end Go.Proofs.Ytgdclchpccbifaa
