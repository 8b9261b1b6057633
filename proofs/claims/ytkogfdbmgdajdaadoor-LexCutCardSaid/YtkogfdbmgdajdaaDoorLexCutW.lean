/-
  THE LAW LexCut, WALKED.
-/
import Derived.Test.YtkogfdbmgdajdaaDoorLexK
namespace Go.Proofs.YtkogfdbmgdajdaaDoor
open Go.ChangeShapes Go.WideShapes Go.ChangeAt Go.RowKit
set_option linter.unusedVariables false
theorem places_n (n : Nat) (l : List Tk) (hn : l.length = n) (A A' : Option Addr) (c c' : Nat) (hl : n ≤ 9000000000000000000) (w : World) (hA : ToksAt w w.heap.size A l) (hA' : ToksAt w w.heap.size A' l) :
    Calls Tryd.prog 10 #[.slice A n c, .slice A' n c'] w fun e w' => e = .returned (.bool true) ∧ Below w.heap.size w w' := by
  subst hn; exact places_yes l A A' c c' hl w hA hA'
set_option maxHeartbeats 2000000 in
theorem cut_long (s : ByteArray) (hs : 3000 < s.size) (hm : s.size ≤ maxLen) (w : World) (hT : Tabs w) : Calls Tryd.prog 6 #[.string s] w fun e w' => e = .returned (.bool true) ∧ Below w.heap.size w w' := by
  have HT := Lib.hid hT
  clear hT
  unfold maxLen at hm
  go_enter Tryd.func6, Tryd.ntmps6
  go_wp2_with (go_at_call 7; refine (knows_any _ HT.out).mono ?_; rintro e w1 ⟨rfl, hb1⟩)
  go_ret
  exact ⟨rfl, hb1⟩
set_option maxHeartbeats 4000000 in
theorem cut_run (s : ByteArray) (hs : s.size ≤ 3000) (w : World) (hT : Tabs w) : Calls Tryd.prog 6 #[.string s] w fun e w' => e = .returned (.bool true) ∧ Below w.heap.size w w' := by
  have HT := Lib.hid hT
  clear hT
  go_enter Tryd.func6, Tryd.ntmps6
  go_wp2_with fail
  refine (scan_any s (by unfold maxLen; omega) _ HT.out).mono ?_
  rintro e w1 ⟨A, c, l, k, a, rfl, hm, hA, hlc, hcm, hn, hb1⟩
  have HM := Lib.hid hm
  have HB1 := Lib.hid hb1
  have HT1 := Lib.hid (HT.out.on hb1)
  have HTa : Hid (∀ o, Tabs (w1.alloc o)) := Lib.hid fun o => HT1.out.on (below_new w1 o)
  have hcases := scan_err (by omega) hm
  clear hm hb1
  rcases hcases with ⟨rfl, rfl⟩ | ⟨hk, ha, rfl⟩
  · by_cases hl0 : l.length = 0
    · have hl1 : ((l.length : Int) == 0) = true := by simp only [beq_iff_eq]; omega
      clear hA
      go_wp2_with (go_at_call 7; refine (knows_any _ (HTa.out _)).mono ?_; rintro e w2 ⟨rfl, hb2⟩)
      go_ret
      exact ⟨rfl, below_then HB1.out (below_then (below_new _ _) hb2)⟩
    · obtain ⟨n, hn1⟩ : ∃ n, l.length = n + 1 := ⟨l.length - 1, by omega⟩
      obtain ⟨ad, rfl, hlt, ht⟩ := hA.tk (k := n) (by omega)
      obtain ⟨p, hp1, hp2, hp3⟩ := cut_scan (by omega) HM.out (by omega)
      have e1 : l[l.length - 1]'(by omega) = l[n]'(by omega) := by congr 1; omega
      rw [e1] at hp1
      rw [show l.length - 1 = n by omega] at hp3
      have HA := Lib.hid hA
      have HA2 : Hid (∀ o, ToksAt (w1.alloc o) (w1.alloc o).heap.size (some ad) l) := Lib.hid fun o => (hA.below (below_new w1 o)).more (by simp)
      have hl2 : l.length ≤ 100000 := by
        have := (reach_le (scan_ok (by omega) HM.out))
        omega
      have HC : Hid (∀ o, (w1.alloc o).cell? ⟨(ad.add (n * 4)).block, (ad.add (n * 4)).off + 1, none⟩ = some (.int .i64 p)) := Lib.hid fun o => by
        have := (ht.on (below_new w1 o) hlt).2.1
        rw [hp1] at this
        exact this
      have hn2 : n ≤ 100000 := by omega
      have HN := Lib.hid hn1
      have HP := Lib.hid hp3
      clear hA ht hp1 e1 hl0 hp3
      rw [hn1]
      clear hn1
      go_upto_region 6 with fail
      have hcell := HC.out (.cells #[.int .i64 0, .int .i64 0, .string ⟨#[]⟩] 26)
      have hc0 : c ≤ 9223372036854775807 := hcm
      have hc1 : n + 1 ≤ c := by have := HN.out; omega
      go_wp2_with fail
      refine (scan_any _ (by rw [ext_size hp2]; unfold maxLen; omega) _ (HTa.out _)).mono ?_
      rintro e w2 ⟨A2, c2, l2, k2, a2, rfl, hm2, hA2, _, _, _, hb2⟩
      obtain ⟨q1, q2⟩ := Prod.mk.inj (HP.out.symm.trans hm2)
      obtain ⟨q2, q3⟩ := Prod.mk.inj q2
      subst q1; subst q2; subst q3
      have hlen : (l.take n).length = n := by rw [List.length_take]; have := HN.out; omega
      rw [hlen]
      have HL := Lib.hid hlen
      have HA3 : Hid (∀ o, ToksAt (w2.alloc o) (w2.alloc o).heap.size A2 (l.take n)) := Lib.hid fun o => (hA2.below (below_new w2 o)).more (by simp)
      have HA4 : Hid (∀ o, ToksAt (w2.alloc o) (w2.alloc o).heap.size (some ad) (l.take n)) := Lib.hid fun o => ((((HA2.out _).take n).below hb2).more hb2.size |>.below (below_new w2 o)).more (by simp)
      have HB2 := Lib.hid hb2
      have HT2 : Hid (∀ o, Tabs (w2.alloc o)) := Lib.hid fun o => ((HTa.out _).on hb2).on (below_new w2 o)
      clear hm2 hA2 hb2 hlen
      go_wp2_with (first | (go_at_call 10; refine (places_n n _ HL.out _ _ _ _ (by omega) _ (HA3.out _) (HA4.out _)).mono ?_; rintro e w3 ⟨rfl, hb3⟩; have HB3 := Lib.hid hb3; clear hb3) | (go_at_call 7; refine (knows_any _ ((HT2.out _).on HB3.out)).mono ?_; rintro e w4 ⟨rfl, hb4⟩; have HB4 := Lib.hid hb4; clear hb4))
      go_ret
      exact ⟨rfl, below_then HB1.out (below_then (below_new _ _) (below_then HB2.out (below_then (below_new _ _) (below_then HB3.out HB4.out))))⟩
  · have hk1 : ((k : Int) == 0) = false := by simp; omega
    clear hA
    go_wp2_with (go_at_call 7; refine (knows_any _ (HTa.out _)).mono ?_; rintro e w2 ⟨rfl, hb2⟩)
    go_ret
    exact ⟨rfl, below_then HB1.out (below_then (below_new _ _) hb2)⟩
end Go.Proofs.YtkogfdbmgdajdaaDoor
