/-
  THE LAW LexTables, WALKED.
-/
import Derived.Test.YtkogfdbmgdajdaaDoorLexK
import Derived.Test.YtkogfdbmgdajdaaDoorOpenToks
namespace Go.Proofs.YtkogfdbmgdajdaaDoor
open Go.ChangeShapes Go.WideShapes Go.ChangeAt Go.RowKit
set_option linter.unusedVariables false
def TabN (n : Nat) (l : List (List UInt8)) (w : World) (e : Ending) (w' : World) : Prop := ∃ A c, e = .returned (.slice A n c) ∧ StrsAt w' w'.heap.size A l ∧ Below w.heap.size w w'
theorem words_n (w : World) (hT : Tabs w) : Calls Tryd.prog 11 #[] w (TabN 24 Kws w) := words_any w hT
theorem signs_n (w : World) (hT : Tabs w) : Calls Tryd.prog 12 #[] w (TabN 19 Sgs w) := signs_any w hT
theorem rwords_n (w : World) : Calls Tryd.prog 13 #[] w (TabN 24 Kws w) := rwords_any w
theorem rsigns_n (w : World) : Calls Tryd.prog 14 #[] w (TabN 19 Sgs w) := rsigns_any w
theorem show_is (l : List Tk) (A : Option Addr) (c : Nat) (hl : l.length ≤ 1000000000) (hz : (shA l).length ≤ 1000000000) (w : World) (hA : ToksAt w w.heap.size A l) (y : ByteArray) (hy : mkS (sh l) = y) :
    Calls Tryd.prog 15 #[.slice A l.length c] w fun e w' => e = .returned (.string y) ∧ Below w.heap.size w w' := by subst hy; exact show_any l A c hl hz w hA
theorem rshow_is (l : List Tk) (A : Option Addr) (c : Nat) (hl : l.length ≤ 1000000000) (hz : (shA l).length ≤ 1000000000) (w : World) (hA : ToksAt w w.heap.size A l) (y : ByteArray) (hy : mkS (sh l) = y) :
    Calls Tryd.prog 16 #[.slice A l.length c] w fun e w' => e = .returned (.string y) ∧ Below w.heap.size w w' := by subst hy; exact rshow_any l A c hl hz w hA
theorem shA_ge (l : List Tk) : l.length ≤ (shA l).length := by
  induction l with
  | nil => exact Nat.le_refl _
  | cons t l ih => rw [shA_cons]; simp; omega
theorem shA_step (l : List Tk) (k : Nat) (hk : k < l.length) : (shA (l.take (k + 1))).length = (shA (l.take k)).length + 1 + l[k].text.size := by
  rw [List.take_succ_eq_append_getElem hk, shA_app, shA_cons]
  simp only [shA, List.flatMap_nil, List.append_nil, List.length_append, List.length_cons, size_toList]
  omega
set_option maxHeartbeats 4000000 in
theorem tables_run (l : List Tk) (A : Option Addr) (c : Nat) (hl : l.length ≤ 140737488351232) (hs : ∀ t ∈ l, t.text.size ≤ 140737488351232) (w : World) (hA : ToksAt w w.heap.size A l) (hT : Tabs w) :
    Calls Tryd.prog 4 #[.slice A l.length c] w fun e w' => e = .returned (.bool true) ∧ Below w.heap.size w w' := by
  have HT := Lib.hid hT
  have HA := Lib.hid hA
  have HS := Lib.hid hs
  clear hT hA hs
  go_enter Tryd.func4, Tryd.ntmps4
  go_wp2
  go_loop [3, 13] (fun x z => ∃ k n : Nat, k ≤ l.length ∧ n = (shA (l.take k)).length ∧ n ≤ 3000 ∧ x = .int .i64 n ∧ z = .int .i64 k) (fun _ z => l.length - (intOf z).toNat)
  case atStart => exact ⟨0, 0, Nat.zero_le _, rfl, by omega, rfl, rfl⟩
  case round =>
    obtain ⟨k, n, hk, hn, hn3, rfl, rfl⟩ := hrel
    have HN := Lib.hid hn
    clear hn
    by_cases hlt : k < l.length
    · obtain ⟨a1, rfl, b1, c1⟩ := HA.out.tk hlt
      unfold TkCells at c1
      obtain ⟨c10, c11, c12, c13⟩ := c1
      clear c10 c11 c13
      have hz := HS.out _ (List.getElem_mem hlt)
      have HP := Lib.hid (shA_step l k hlt)
      obtain ⟨y, hy⟩ : ∃ y, l[k].text = y := ⟨_, rfl⟩
      rw [hy] at c12 hz HP
      clear hy
      by_cases hb : n + 1 + y.size ≤ 3000
      · go_wp2
        go_round
        case rel => exact ⟨k + 1, n + 1 + y.size, by omega, by rw [HP.out, ← HN.out], hb, by go_num, by go_num⟩
        case measure => simp [intOf]; omega
      · go_wp2_with (go_at_call 7; refine (knows_any _ HT.out).mono ?_; rintro e w1 ⟨rfl, hb1⟩)
        go_ret
        exact ⟨rfl, hb1⟩
    · obtain rfl : k = l.length := by omega
      rw [List.take_length] at HN
      have hl2 := shA_ge l
      have hl3 : l.length ≤ 1000000000 := by have := HN.out; omega
      have HL : Hid ((shA l).length ≤ 1000000000) := Lib.hid (by have := HN.out; omega)
      clear hl2
      obtain ⟨y, hy⟩ : ∃ y, mkS (sh l) = y := ⟨_, rfl⟩
      have HY := Lib.hid hy
      have n1 := neq_self y
      clear hy
      go_wp2_with fail
      refine (words_n _ HT.out).mono ?_
      rintro e w1 ⟨A1, c1, rfl, s1, b1⟩
      have HB1 := Lib.hid b1
      have HT1 := Lib.hid (HT.out.on b1)
      clear b1
      go_wp2_with fail
      refine (signs_n _ HT1.out).mono ?_
      rintro e w2 ⟨A2, c2, rfl, s2, b2⟩
      have s1 := (s1.below b2).more b2.size
      have HB2 := Lib.hid (below_then HB1.out b2)
      have HT2 := Lib.hid (HT1.out.on b2)
      clear b2
      go_wp2_with fail
      refine (rwords_n _).mono ?_
      rintro e w3 ⟨A3, c3, rfl, s3, b3⟩
      have s1 := (s1.below b3).more b3.size
      have s2 := (s2.below b3).more b3.size
      have HB3 := Lib.hid (below_then HB2.out b3)
      have HT3 := Lib.hid (HT2.out.on b3)
      clear b3
      go_wp2_with fail
      refine (rsigns_n _).mono ?_
      rintro e w4 ⟨A4, c4, rfl, s4, b4⟩
      have s1 := (s1.below b4).more b4.size
      have s2 := (s2.below b4).more b4.size
      have s3 := (s3.below b4).more b4.size
      have HB4 := Lib.hid (below_then HB3.out b4)
      have HT4 := Lib.hid (HT3.out.on b4)
      have HA4 := Lib.hid ((HA.out.below HB4.out).more HB4.out.size)
      clear b4
      have HS4 := Lib.hid (And.intro s1 (And.intro s2 (And.intro s3 s4)))
      clear s1 s2 s3 s4
      go_wp2_with (first | (go_at_call 15; refine (show_is l A c hl3 HL.out _ HA4.out y HY.out).mono ?_; rintro e w5 ⟨rfl, b5⟩; have HB5 := Lib.hid b5; have HA5 := Lib.hid ((HA4.out.below b5).more b5.size); clear b5) | (go_at_call 16; refine (rshow_is l A c hl3 HL.out _ HA5.out y HY.out).mono ?_; rintro e w6 ⟨rfl, b6⟩; have HB6 := Lib.hid (below_then HB5.out b6); clear b6))
      go_loopw [54] (fun z wr => ∃ k : Nat, k ≤ 24 ∧ z = .int .i64 k ∧ Below w4.heap.size w4 wr) (fun z _ => 24 - (intOf z).toNat)
      case atStart => exact ⟨0, Nat.zero_le _, rfl, HB6.out⟩
      case round =>
        obtain ⟨k, hk, rfl, hb⟩ := hrel
        have HB := Lib.hid hb
        clear hb
        by_cases hlt : k < 24
        · have hkl : k < Kws.length := hlt
          have hz := HB.out.size
          obtain ⟨a1, rfl, q1, e1⟩ := (HS4.out.1.below HB.out).at_ hkl
          obtain ⟨a2, rfl, q2, e2⟩ := (HS4.out.2.2.1.below HB.out).at_ hkl
          have HC := Lib.hid fun (W : World) (hW : Below wr.heap.size wr W) => And.intro ((hW.cell (by rw [block_add]; omega)).trans e1) ((hW.cell (by rw [block_add]; omega)).trans e2)
          clear e1 e2
          generalize mkS Kws[k] = y2 at *
          have n2 := neq_self y2
          go_wp2
          refine wp_region_S (fun w' => Below wr.heap.size wr w') (by kernel_rfl) (below_drew1 (Below.refl _ _)) ?_
          refine wpS_take (v := ?_) (a' := ?_) 0 rfl (by kernel_rfl) (by kernel_rfl) (by kernel_rfl) ?_ ?_ ?_
          rotate_left 2
          · refine stepS_yield (by kernel_rfl) ?_; intro wS hS; obtain ⟨z1, z2⟩ := HC.out _ hS; go_simp; with_reducible rfl
          · go_simp; with_reducible rfl
          refine wpS_take (v := ?_) (a' := ?_) 1 rfl (by kernel_rfl) (by kernel_rfl) (by kernel_rfl) ?_ ?_ ?_
          rotate_left 2
          · refine stepS_yield (by kernel_rfl) ?_; intro wS hS; obtain ⟨z1, z2⟩ := HC.out _ hS; go_simp; with_reducible rfl
          · go_simp; with_reducible rfl
          refine wpS_take (v := ?_) (a' := ?_) 2 rfl (by kernel_rfl) (by kernel_rfl) (by kernel_rfl) ?_ ?_ ?_
          rotate_left 2
          · refine stepS_yield (by kernel_rfl) ?_; intro wS hS; obtain ⟨z1, z2⟩ := HC.out _ hS; go_simp; with_reducible rfl
          · go_simp; with_reducible rfl
          refine wpS_take (v := ?_) (a' := ?_) 3 rfl (by kernel_rfl) (by kernel_rfl) (by kernel_rfl) ?_ ?_ ?_
          rotate_left 2
          · refine stepS_yield (by kernel_rfl) ?_; intro wS hS; obtain ⟨z1, z2⟩ := HC.out _ hS; go_simp; with_reducible rfl
          · go_simp; with_reducible rfl
          refine wpS_take (v := ?_) (a' := ?_) 4 rfl (by kernel_rfl) (by kernel_rfl) (by kernel_rfl) ?_ ?_ ?_
          rotate_left 2
          · refine stepS_yield (by kernel_rfl) ?_; intro wS hS; obtain ⟨z1, z2⟩ := HC.out _ hS; go_simp; with_reducible rfl
          · go_simp; with_reducible rfl
          refine wpS_take (v := ?_) (a' := ?_) 5 rfl (by kernel_rfl) (by kernel_rfl) (by kernel_rfl) ?_ ?_ ?_
          rotate_left 2
          · refine stepS_yield (by kernel_rfl) ?_; intro wS hS; obtain ⟨z1, z2⟩ := HC.out _ hS; go_simp; with_reducible rfl
          · go_simp; with_reducible rfl
          refine wpS_take (v := ?_) (a' := ?_) 6 rfl (by kernel_rfl) (by kernel_rfl) (by kernel_rfl) ?_ ?_ ?_
          rotate_left 2
          · refine stepS_yield (by kernel_rfl) ?_; intro wS hS; obtain ⟨z1, z2⟩ := HC.out _ hS; go_simp; with_reducible rfl
          · go_simp; with_reducible rfl
          refine wpS_take (v := ?_) (a' := ?_) 7 rfl (by kernel_rfl) (by kernel_rfl) (by kernel_rfl) ?_ ?_ ?_
          rotate_left 2
          · refine stepS_yield (by kernel_rfl) ?_; intro wS hS; obtain ⟨z1, z2⟩ := HC.out _ hS; go_simp; with_reducible rfl
          · go_simp; with_reducible rfl
          refine wpS_take (v := ?_) (a' := ?_) 8 rfl (by kernel_rfl) (by kernel_rfl) (by kernel_rfl) ?_ ?_ ?_
          rotate_left 2
          · refine stepS_yield (by kernel_rfl) ?_; intro wS hS; obtain ⟨z1, z2⟩ := HC.out _ hS; go_simp; with_reducible rfl
          · go_simp; with_reducible rfl
          refine wpS_end (by kernel_rfl) ?_
          intro w9 hS9
          go_wp2
          go_roundw
          case rel => exact ⟨k + 1, by omega, by go_num, below_then HB.out hS9⟩
          case measure => simp [intOf]; omega
        · have HBo := Lib.hid HB.out
          obtain ⟨wo, rfl⟩ : ∃ wo : World, wo = wr := ⟨_, rfl⟩
          go_wp2
          go_loopw [69] (fun z wr => ∃ k : Nat, k ≤ 19 ∧ z = .int .i64 k ∧ Below w4.heap.size w4 wr) (fun z _ => 19 - (intOf z).toNat)
          case atStart => exact ⟨0, Nat.zero_le _, rfl, HBo.out⟩
          case round =>
            obtain ⟨k, hk, rfl, hb⟩ := hrel
            have HB := Lib.hid hb
            clear hb
            by_cases hlt : k < 19
            · have hkl : k < Sgs.length := hlt
              have hz := HB.out.size
              obtain ⟨a1, rfl, q1, e1⟩ := (HS4.out.2.1.below HB.out).at_ hkl
              obtain ⟨a2, rfl, q2, e2⟩ := (HS4.out.2.2.2.below HB.out).at_ hkl
              have HC := Lib.hid fun (W : World) (hW : Below wr.heap.size wr W) => And.intro ((hW.cell (by rw [block_add]; omega)).trans e1) ((hW.cell (by rw [block_add]; omega)).trans e2)
              clear e1 e2
              generalize mkS Sgs[k] = y2 at *
              have n2 := neq_self y2
              go_wp2
              refine wp_region_S (fun w' => Below wr.heap.size wr w') (by kernel_rfl) (below_drew1 (Below.refl _ _)) ?_
              refine wpS_take (v := ?_) (a' := ?_) 0 rfl (by kernel_rfl) (by kernel_rfl) (by kernel_rfl) ?_ ?_ ?_
              rotate_left 2
              · refine stepS_yield (by kernel_rfl) ?_; intro wS hS; obtain ⟨z1, z2⟩ := HC.out _ hS; go_simp; with_reducible rfl
              · go_simp; with_reducible rfl
              refine wpS_take (v := ?_) (a' := ?_) 1 rfl (by kernel_rfl) (by kernel_rfl) (by kernel_rfl) ?_ ?_ ?_
              rotate_left 2
              · refine stepS_yield (by kernel_rfl) ?_; intro wS hS; obtain ⟨z1, z2⟩ := HC.out _ hS; go_simp; with_reducible rfl
              · go_simp; with_reducible rfl
              refine wpS_take (v := ?_) (a' := ?_) 2 rfl (by kernel_rfl) (by kernel_rfl) (by kernel_rfl) ?_ ?_ ?_
              rotate_left 2
              · refine stepS_yield (by kernel_rfl) ?_; intro wS hS; obtain ⟨z1, z2⟩ := HC.out _ hS; go_simp; with_reducible rfl
              · go_simp; with_reducible rfl
              refine wpS_take (v := ?_) (a' := ?_) 3 rfl (by kernel_rfl) (by kernel_rfl) (by kernel_rfl) ?_ ?_ ?_
              rotate_left 2
              · refine stepS_yield (by kernel_rfl) ?_; intro wS hS; obtain ⟨z1, z2⟩ := HC.out _ hS; go_simp; with_reducible rfl
              · go_simp; with_reducible rfl
              refine wpS_take (v := ?_) (a' := ?_) 4 rfl (by kernel_rfl) (by kernel_rfl) (by kernel_rfl) ?_ ?_ ?_
              rotate_left 2
              · refine stepS_yield (by kernel_rfl) ?_; intro wS hS; obtain ⟨z1, z2⟩ := HC.out _ hS; go_simp; with_reducible rfl
              · go_simp; with_reducible rfl
              refine wpS_take (v := ?_) (a' := ?_) 5 rfl (by kernel_rfl) (by kernel_rfl) (by kernel_rfl) ?_ ?_ ?_
              rotate_left 2
              · refine stepS_yield (by kernel_rfl) ?_; intro wS hS; obtain ⟨z1, z2⟩ := HC.out _ hS; go_simp; with_reducible rfl
              · go_simp; with_reducible rfl
              refine wpS_take (v := ?_) (a' := ?_) 6 rfl (by kernel_rfl) (by kernel_rfl) (by kernel_rfl) ?_ ?_ ?_
              rotate_left 2
              · refine stepS_yield (by kernel_rfl) ?_; intro wS hS; obtain ⟨z1, z2⟩ := HC.out _ hS; go_simp; with_reducible rfl
              · go_simp; with_reducible rfl
              refine wpS_take (v := ?_) (a' := ?_) 7 rfl (by kernel_rfl) (by kernel_rfl) (by kernel_rfl) ?_ ?_ ?_
              rotate_left 2
              · refine stepS_yield (by kernel_rfl) ?_; intro wS hS; obtain ⟨z1, z2⟩ := HC.out _ hS; go_simp; with_reducible rfl
              · go_simp; with_reducible rfl
              refine wpS_take (v := ?_) (a' := ?_) 8 rfl (by kernel_rfl) (by kernel_rfl) (by kernel_rfl) ?_ ?_ ?_
              rotate_left 2
              · refine stepS_yield (by kernel_rfl) ?_; intro wS hS; obtain ⟨z1, z2⟩ := HC.out _ hS; go_simp; with_reducible rfl
              · go_simp; with_reducible rfl
              refine wpS_end (by kernel_rfl) ?_
              intro w9 hS9
              go_wp2
              go_roundw
              case rel => exact ⟨k + 1, by omega, by go_num, below_then HB.out hS9⟩
              case measure => simp [intOf]; omega
            · have HTE := Lib.hid (HT4.out.on HB.out)
              go_wp2_with (go_at_call 7; refine (knows_any _ HTE.out).mono ?_; rintro e w9 ⟨rfl, b9⟩)
              go_ret
              exact ⟨rfl, below_then (below_then HB4.out HB.out) b9⟩
end Go.Proofs.YtkogfdbmgdajdaaDoor
