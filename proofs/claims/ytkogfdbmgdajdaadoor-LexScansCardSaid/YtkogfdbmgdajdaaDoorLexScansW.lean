/-
  THE LAW LexScans, WALKED.
-/
import Derived.Test.YtkogfdbmgdajdaaDoorLexQ
import Derived.Test.YtkogfdbmgdajdaaDoorLexK
namespace Go.Proofs.YtkogfdbmgdajdaaDoor
open Go.ChangeShapes Go.WideShapes Go.ChangeAt Go.RowKit
set_option linter.unusedVariables false
set_option maxHeartbeats 2000000 in
theorem scans_long (s : ByteArray) (hs : 70000 < s.size) (hm : s.size ≤ maxLen) (w : World) (hT : Tabs w) : Calls Tryd.prog 3 #[.string s] w fun e w' => e = .returned (.bool true) ∧ Below w.heap.size w w' := by
  have HT := Lib.hid hT
  clear hT
  unfold maxLen at hm
  go_enter Tryd.func3, Tryd.ntmps3
  go_wp2_with (go_at_call 7; refine (knows_any _ HT.out).mono ?_; rintro e w1 ⟨rfl, hb1⟩)
  go_ret
  exact ⟨rfl, hb1⟩
theorem reach_small {s : ByteArray} {l : List Tk} {k a : Nat} (h : scanM s = (k, a, l)) : l.length ≤ 65536 := by
  by_cases hs : s.size ≤ 65536
  · obtain ⟨i, acc, hr, ⟨_, h2⟩ | ⟨k', a', _, h2⟩⟩ := scan_reach hs
    · rw [h] at h2
      obtain rfl : l = acc := congrArg (·.2.2) h2
      have := reach_le hr; omega
    · rw [h] at h2
      obtain rfl : l = [] := congrArg (·.2.2) h2
      simp
  · rw [scan_long (by omega)] at h
    obtain rfl : [] = l := congrArg (·.2.2) h
    simp
set_option maxHeartbeats 4000000 in
theorem scans_run (s : ByteArray) (hs : s.size ≤ 70000) (w : World) (hT : Tabs w) : Calls Tryd.prog 3 #[.string s] w fun e w' => e = .returned (.bool true) ∧ Below w.heap.size w w' := by
  have HT := Lib.hid hT
  have HS : Hid (s.size ≤ maxLen) := Lib.hid (by unfold maxLen; omega)
  clear hT
  go_enter Tryd.func3, Tryd.ntmps3
  go_wp2_with fail
  refine (scan_any s HS.out _ HT.out).mono ?_
  rintro e w1 ⟨A, c, l, k, a, rfl, hm, hA, hlc, hcm, hn, hb1⟩
  have HM := Lib.hid hm
  have HB1 := Lib.hid hb1
  have HT1 : Hid (∀ o, Tabs (w1.alloc o)) := Lib.hid fun o => (HT.out.on hb1).on (below_new w1 o)
  have HA1 : Hid (∀ o, ToksAt (w1.alloc o) (w1.alloc o).heap.size A l) := Lib.hid fun o => (hA.below (below_new w1 o)).more (by simp)
  clear hm hA hb1
  go_wp2_with fail
  refine (rscan_any s HS.out _).mono ?_
  rintro e w2 ⟨A2, c2, l2, k2, a2, rfl, hm2, hA2, _, _, _, hb2⟩
  obtain ⟨q1, q2⟩ := Prod.mk.inj (HM.out.symm.trans hm2)
  obtain ⟨q2, q3⟩ := Prod.mk.inj q2
  subst q1; subst q2; subst q3
  clear hm2
  have hll : l.length ≤ 9000000000000000000 := by have := reach_small HM.out; omega
  have hs2 := hb2.size
  rw [World.size_alloc] at hs2
  go_upto_region 5 with fail
  obtain ⟨w3, hw3⟩ : ∃ w3, w2.alloc (.cells #[.int .i64 k, .int .i64 a, .string ⟨#[]⟩] 26) = w3 := ⟨_, rfl⟩
  have hb3 : Below (w1.alloc (.cells #[.int .i64 k, .int .i64 a, .string ⟨#[]⟩] 26)).heap.size (w1.alloc (.cells #[.int .i64 k, .int .i64 a, .string ⟨#[]⟩] 26)) w3 := by rw [← hw3]; exact hb2.alloc (by rw [World.size_alloc]; exact hs2) _
  have g1 : w3.heap[w1.heap.size]? = some (.cells #[.int .i64 k, .int .i64 a, .string ⟨#[]⟩] 26 (0, 0)) := (hb3.block _ (by simp)).trans (heap_new1 _ _)
  have g2 : w3.heap[w2.heap.size]? = some (.cells #[.int .i64 k, .int .i64 a, .string ⟨#[]⟩] 26 (0, 0)) := by rw [← hw3]; exact heap_new1 _ _
  obtain ⟨d0, d1, d2⟩ := bad_cells g1
  obtain ⟨e0, e1, e2⟩ := bad_cells g2
  have HT3 : Hid (Tabs w3) := Lib.hid ((HT1.out _).on hb3)
  have HA3 : Hid (ToksAt w3 w3.heap.size A l) := Lib.hid (((HA1.out _).below hb3).more hb3.size)
  have HA4 : Hid (ToksAt w3 w3.heap.size A2 l) := Lib.hid (by rw [← hw3]; exact (hA2.below (below_new w2 _)).more (by simp))
  have HB3 : Hid (Below w.heap.size w w3) := Lib.hid (below_then HB1.out (below_then (below_new w1 _) hb3))
  rw [hw3]
  clear hw3 hb3 hb2 g1 g2 hA2
  go_wp2_with (first | (go_at_call 10; refine (places_yes l A A2 c c2 hll _ HA3.out HA4.out).mono ?_; rintro e w4 ⟨rfl, hb4⟩; have HB4 := Lib.hid hb4; clear hb4) | (go_at_call 7; refine (knows_any _ (HT3.out.on HB4.out)).mono ?_; rintro e w5 ⟨rfl, hb5⟩; have HB5 := Lib.hid hb5; clear hb5))
  go_ret
  exact ⟨rfl, below_then HB3.out (below_then HB4.out HB5.out)⟩
end Go.Proofs.YtkogfdbmgdajdaaDoor
