/-
  CONTRACTS OF lex, VII: Show, and the reference's Show.
-/
import Derived.Test.YtkogfdbmgdajdaaDoorLexF
import Derived.Test.YtkogfdbmgdajdaaDoorBuilderB
namespace Go.Proofs.YtkogfdbmgdajdaaDoor
open Go.ChangeShapes Go.WideShapes Go.ChangeAt Go.RowKit
set_option linter.unusedVariables false
theorem sh_take (l : List Tk) (k : Nat) (hk : k < l.length) : sh (l.take (k + 1)) = if k = 0 then l[k].text.data.toList else sh (l.take k) ++ 32 :: l[k].text.data.toList := by
  rw [List.take_succ_eq_append_getElem hk, sh_snoc]
  by_cases h0 : k = 0
  · subst h0; rfl
  · have : l.take k ≠ [] := fun h => by
      have := congrArg List.length h
      rw [List.length_take, List.length_nil] at this
      omega
    rw [if_neg h0, if_neg this]
theorem shA_take (l : List Tk) (k : Nat) : (shA (l.take k)).length ≤ (shA l).length := by
  have : shA l = shA (l.take k) ++ shA (l.drop k) := by rw [← shA_app, List.take_append_drop]
  rw [this, List.length_append]; omega
theorem sh_le (l : List Tk) (k : Nat) (hk : k < l.length) : (sh (l.take k)).length + 1 + l[k].text.size ≤ (shA l).length := by
  have h1 := shA_take l (k + 1)
  rw [List.take_succ_eq_append_getElem hk, shA_app, shA_cons] at h1
  simp only [shA, List.flatMap_nil, List.append_nil, List.length_append, List.length_cons, size_toList] at h1
  rw [sh_len]
  simp only [shA]
  omega
theorem sh_step1 {w w' : World} {l : List Tk} {k : Nat} {y : ByteArray} (hk : k < l.length) (hy : l[k].text = y) (h0 : k = 0) (h : BInv w (sh (l.take k) ++ y.data.toList) w') : BInv w (sh (l.take (k + 1))) w' := by
  rw [sh_take l k hk, if_pos h0, hy]
  subst h0
  exact h
theorem sh_step2 {w w' : World} {l : List Tk} {k : Nat} {y : ByteArray} (hk : k < l.length) (hy : l[k].text = y) (h0 : ¬ k = 0) (h : BInv w (sh (l.take k) ++ [32] ++ y.data.toList) w') : BInv w (sh (l.take (k + 1))) w' := by
  rw [sh_take l k hk, if_neg h0, hy]
  rw [List.append_assoc] at h
  exact h
set_option maxHeartbeats 1000000 in
theorem show_any (l : List Tk) (A : Option Addr) (c : Nat) (hl : l.length ≤ 1000000000) (hz : (shA l).length ≤ 1000000000) (w : World) (hA : ToksAt w w.heap.size A l) :
    Calls Tryd.prog 15 #[.slice A l.length c] w fun e w' => e = .returned (.string (mkS (sh l))) ∧ Below w.heap.size w w' := by
  have HA := Lib.hid hA
  clear hA
  go_enter Tryd.func15, Tryd.ntmps15
  go_wp2
  go_loopw [8] (fun z wr => ∃ k : Nat, k ≤ l.length ∧ z = .int .i64 k ∧ BInv w (sh (l.take k)) wr) (fun z _ => l.length - (intOf z).toNat)
  case atStart => exact ⟨0, Nat.zero_le _, rfl, binv_new w⟩
  case round =>
    obtain ⟨k, hk, rfl, hb⟩ := hrel
    have HB := Lib.hid hb
    clear hb
    by_cases hlt : k < l.length
    · have hle := sh_le l k hlt
      obtain ⟨a1, rfl, b1, c1⟩ := (HA.out.below HB.out.1).tk hlt
      unfold TkCells at c1
      obtain ⟨c10, c11, c12, c13⟩ := c1
      have hw := HB.out.1.size
      obtain ⟨y, hy⟩ : ∃ y, l[k].text = y := ⟨_, rfl⟩
      rw [hy] at c12 hle
      generalize l[k].kind = x0 at *
      generalize l[k].at_ = x1 at *
      generalize l[k].n = x3 at *
      have HY := Lib.hid hy
      clear hy
      by_cases h0 : k = 0
      · have HZ : Hid (k = 0) := Lib.hid h0
        have hz0 : ¬ (0 : Int) < k := by omega
        have HP : Hid (∀ o, BInv w (sh (l.take k)) (wr.alloc o)) := Lib.hid fun o => binv_below HB.out (below_new _ _)
        clear h0
        go_wp2_with (first | (go_at_call 24; refine (binv_write (HP.out _) y (by omega)).mono ?_; rintro e w1 ⟨rfl, hb1⟩; have HB1 := Lib.hid hb1; clear hb1))
        go_roundw
        case rel => exact ⟨k + 1, by omega, by go_num, sh_step1 hlt HY.out HZ.out HB1.out⟩
        case measure => simp [intOf]; omega
      · have HZ : Hid (¬ k = 0) := Lib.hid h0
        have hz0 : (0 : Int) < k := by omega
        have HP : Hid (∀ o, BInv w (sh (l.take k)) (wr.alloc o)) := Lib.hid fun o => binv_below HB.out (below_new _ _)
        have hW : w.heap.size < wr.heap.size := HB.out.2.elim (·.lt) (·.lt)
        clear h0
        go_wp2_with fail
        refine (binv_byte_kept (HP.out _) 32 (by omega)).mono ?_
        rintro e w1 ⟨rfl, hb1, hk1⟩
        have HB1 := Lib.hid hb1
        have hrow : w1.heap[wr.heap.size]? = some (.cells #[.int .i64 x0, .int .i64 x1, .string y, .int .i64 x3] 33 (0, 0)) := hk1 wr.heap.size _ (heap_new1 _ _) (by simp; omega) (by intro c fz h; cases h)
        have d2 : w1.cell? ⟨wr.heap.size, 2, none⟩ = some (.string y) := by rw [Lib.cell_of_heap hrow]; rfl
        clear hb1 hk1 hrow
        go_wp2_with (first | (go_at_call 24; refine (binv_write HB1.out y (by rw [List.length_append, List.length_singleton]; omega)).mono ?_; rintro e w2 ⟨rfl, hb2⟩; have HB2 := Lib.hid hb2; clear hb2))
        go_roundw
        case rel => exact ⟨k + 1, by omega, by go_num, sh_step2 hlt HY.out HZ.out HB2.out⟩
        case measure => simp [intOf]; omega
    · obtain rfl : k = l.length := by omega
      have HP : Hid (BInv w (sh l) wr) := Lib.hid (by have := HB.out; rwa [List.take_length] at this)
      go_wp2_with (go_at_call 25; refine (binv_string HP.out).mono ?_; rintro e w1 ⟨rfl, hb1⟩)
      go_ret
      exact ⟨rfl, hb1⟩
theorem bytes_add (a b : ByteArray) : (a ++ b).data.toList = a.data.toList ++ b.data.toList := by simp
theorem bytes_eq {a b : ByteArray} (h : a.data.toList = b.data.toList) : a = b := by
  apply ByteArray.ext
  exact Array.toList_inj.1 h
theorem mk_add (xs : List UInt8) (b : ByteArray) : mkS xs ++ b = mkS (xs ++ b.data.toList) := by
  apply bytes_eq
  rw [bytes_add, mkS_list, mkS_list]
set_option maxHeartbeats 1000000 in
theorem rshow_any (l : List Tk) (A : Option Addr) (c : Nat) (hl : l.length ≤ 1000000000) (hz : (shA l).length ≤ 1000000000) (w : World) (hA : ToksAt w w.heap.size A l) :
    Calls Tryd.prog 16 #[.slice A l.length c] w fun e w' => e = .returned (.string (mkS (sh l))) ∧ Below w.heap.size w w' := by
  have HA := Lib.hid hA
  clear hA
  go_enter Tryd.func16, Tryd.ntmps16
  go_wp2
  go_loopw [3, 7] (fun x z wr => ∃ k : Nat, k ≤ l.length ∧ z = .int .i64 k ∧ x = .string (mkS (sh (l.take k))) ∧ Below w.heap.size w wr) (fun _ z _ => l.length - (intOf z).toNat)
  case atStart => exact ⟨0, Nat.zero_le _, rfl, rfl, Below.refl _ _⟩
  case round =>
    obtain ⟨k, hk, rfl, rfl, hb⟩ := hrel
    have HB := Lib.hid hb
    clear hb
    by_cases hlt : k < l.length
    · have hle := sh_le l k hlt
      obtain ⟨a1, rfl, b1, c1⟩ := (HA.out.below HB.out).tk hlt
      unfold TkCells at c1
      obtain ⟨c10, c11, c12, c13⟩ := c1
      obtain ⟨y, hy⟩ : ∃ y, l[k].text = y := ⟨_, rfl⟩
      rw [hy] at c12 hle
      have HT := Lib.hid (sh_take l k hlt)
      have HY := Lib.hid hy
      have hs1 : (mkS (sh (l.take k))).size ≤ 1000000000 := by rw [mkS_size]; omega
      have hs2 : y.size ≤ 1000000000 := by omega
      clear hy
      by_cases h0 : k = 0
      · have HZ : Hid (k = 0) := Lib.hid h0
        have hz0 : ¬ (0 : Int) < k := by omega
        clear h0
        go_wp2
        go_roundw
        case rel => exact ⟨k + 1, by omega, by go_num, congrArg Value.string (by rw [HT.out, if_pos HZ.out, HY.out, HZ.out]; exact mk_add [] y), HB.out⟩
        case measure => simp [intOf]; omega
      · have HZ : Hid (¬ k = 0) := Lib.hid h0
        have hz0 : (0 : Int) < k := by omega
        clear h0
        go_wp2
        go_roundw
        case rel => exact ⟨k + 1, by omega, by go_num, congrArg Value.string (by rw [HT.out, if_neg HZ.out, HY.out, mk_add, mk_add, List.append_assoc]; rfl), HB.out⟩
        case measure => simp [intOf]; omega
    · obtain rfl : k = l.length := by omega
      have HP : Hid (mkS (sh (l.take l.length)) = mkS (sh l)) := Lib.hid (by rw [List.take_length])
      go_wp2
      go_ret
      exact ⟨ret_str HP.out, HB.out⟩
end Go.Proofs.YtkogfdbmgdajdaaDoor
