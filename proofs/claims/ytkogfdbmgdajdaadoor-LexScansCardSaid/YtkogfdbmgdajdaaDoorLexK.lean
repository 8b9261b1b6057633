/-
  CONTRACT OF camletlaw04.knows.
-/
import Derived.Test.YtkogfdbmgdajdaaDoorLexG
import Derived.KernelRfl
import Derived.Deep.DeepCutAuto
namespace Go.Proofs.YtkogfdbmgdajdaaDoor
open Go.ChangeShapes Go.WideShapes Go.ChangeAt Go.RowKit
set_option linter.unusedVariables false
def ks1 : List UInt8 := [118, 97, 108, 32, 120, 39, 61, 126, 49, 50, 40, 42, 97, 40, 42, 98, 42, 41, 42, 41]
def ks2 : List UInt8 := [97, 32, 40, 42, 32, 98]
def kl1 : List Tk := [⟨5, 0, mkS [118, 97, 108], 0⟩, ⟨2, 4, mkS [120, 39], 0⟩, ⟨6, 6, mkS [61], 0⟩, ⟨6, 7, mkS [126], 0⟩, ⟨1, 8, mkS [49, 50], 12⟩]
theorem kscan1 : scanM (mkS ks1) = (0, 0, kl1) := by kernel_rfl
theorem kscan2 : scanM (mkS ks2) = (12, 2, []) := by kernel_rfl
theorem known1 (w : World) (hT : Tabs w) : Calls Tryd.prog 8 #[.string ⟨#[118, 97, 108, 32, 120, 39, 61, 126, 49, 50, 40, 42, 97, 40, 42, 98, 42, 41, 42, 41]⟩] w fun e w' =>
    ∃ A c, e = .returned (.tuple #[.slice (some A) 5 c, .agg #[.int .i64 0, .int .i64 0, .string ⟨#[]⟩]]) ∧ A.block < w'.heap.size ∧ TkCells w' A 1 ⟨2, 4, mkS [120, 39], 0⟩ ∧ TkCells w' A 4 ⟨1, 8, mkS [49, 50], 12⟩ ∧ Below w.heap.size w w' := by
  refine (scan_any (mkS ks1) (by decide) w hT).mono ?_
  rintro e w' ⟨A, c, l, k, a, rfl, hm, hA, hlc, hcm, hn, hb⟩
  obtain ⟨h1, h2⟩ := Prod.mk.inj (kscan1.symm.trans hm)
  obtain ⟨h2, h3⟩ := Prod.mk.inj h2
  subst h1; subst h2; subst h3
  obtain ⟨ad, rfl, hlt, h1⟩ := hA.tk (k := 1) (by decide)
  obtain ⟨ad', e2, _, h4⟩ := hA.tk (k := 4) (by decide)
  cases e2
  exact ⟨_, c, rfl, hlt, h1, h4, hb⟩
theorem known2 (w : World) (hT : Tabs w) : Calls Tryd.prog 8 #[.string ⟨#[97, 32, 40, 42, 32, 98]⟩] w fun e w' =>
    ∃ A c, e = .returned (.tuple #[.slice A 0 c, .agg #[.int .i64 12, .int .i64 2, .string ⟨#[]⟩]]) ∧ Below w.heap.size w w' := by
  refine (scan_any (mkS ks2) (by decide) w hT).mono ?_
  rintro e w' ⟨A, c, l, k, a, rfl, hm, hA, hlc, hcm, hn, hb⟩
  obtain ⟨h1, h2⟩ := Prod.mk.inj (kscan2.symm.trans hm)
  obtain ⟨h2, h3⟩ := Prod.mk.inj h2
  subst h1; subst h2; subst h3
  exact ⟨_, c, rfl, hb⟩
/-- The cells of a Bad. -/
theorem bad_cells {w : World} {g : Nat} {x y : Value} {t : TypeId} (h : w.heap[g]? = some (.cells #[x, y, .string ⟨#[]⟩] t (0, 0))) : w.cell? ⟨g, 0, none⟩ = some x ∧ w.cell? ⟨g, 1, none⟩ = some y ∧ w.cell? ⟨g, 2, none⟩ = some (.string ⟨#[]⟩) :=
  ⟨by rw [Lib.cell_of_heap h]; rfl, by rw [Lib.cell_of_heap h]; rfl, by rw [Lib.cell_of_heap h]; rfl⟩
theorem words24 (w : World) (hT : Tabs w) : Calls Tryd.prog 11 #[] w fun e w' => ∃ A c, e = .returned (.slice A 24 c) ∧ Below w.heap.size w w' :=
  (words_any w hT).mono fun _ _ ⟨A, c, he, _, hb⟩ => ⟨A, c, he, hb⟩
theorem signs19 (w : World) (hT : Tabs w) : Calls Tryd.prog 12 #[] w fun e w' => ∃ A c, e = .returned (.slice A 19 c) ∧ Below w.heap.size w w' :=
  (signs_any w hT).mono fun _ _ ⟨A, c, he, _, hb⟩ => ⟨A, c, he, hb⟩
set_option maxHeartbeats 1000000 in
theorem knows_any (w : World) (hT : Tabs w) : Calls Tryd.prog 7 #[] w fun e w' => e = .returned (.bool true) ∧ Below w.heap.size w w' := by
  have HT := Lib.hid hT
  clear hT
  go_enter Tryd.func7, Tryd.ntmps7
  go_wp2_with fail
  refine (known1 _ HT.out).mono ?_
  rintro e w1 ⟨A, c, rfl, hA, hc1, hc4, hb1⟩
  have HB1 := Lib.hid hb1
  have HT1 : Hid (∀ o, Tabs (w1.alloc o)) := Lib.hid fun o => (HT.out.on hb1).on (below_new w1 o)
  have HC : Hid (∀ W, Below (w1.heap.size + 1) (w1.alloc (.cells #[.int .i64 0, .int .i64 0, .string ⟨#[]⟩] 26)) W → W.heap[w1.heap.size]? = some (.cells #[.int .i64 0, .int .i64 0, .string ⟨#[]⟩] 26 (0, 0)) ∧ TkCells W A 1 ⟨2, 4, mkS [120, 39], 0⟩ ∧ TkCells W A 4 ⟨1, 8, mkS [49, 50], 12⟩) :=
    Lib.hid fun W hW => ⟨(hW.block _ (by omega)).trans (heap_new1 _ _), (hc1.on (below_new w1 _) hA).on hW (by omega), (hc4.on (below_new w1 _) hA).on hW (by omega)⟩
  clear hb1 hc1 hc4
  go_wp2_with fail
  refine (known2 _ (HT1.out _)).mono ?_
  rintro e w2 ⟨A2, c2, rfl, hb2⟩
  rw [World.size_alloc] at hb2
  have hs2 := hb2.size
  rw [World.size_alloc] at hs2
  go_upto_region 3 with fail
  obtain ⟨w3, hw3⟩ : ∃ w3, w2.alloc (.cells #[.int .i64 12, .int .i64 2, .string ⟨#[]⟩] 26) = w3 := ⟨_, rfl⟩
  have hb3 : Below (w1.heap.size + 1) (w1.alloc (.cells #[.int .i64 0, .int .i64 0, .string ⟨#[]⟩] 26)) w3 := by rw [← hw3]; exact hb2.alloc hs2 _
  obtain ⟨g1, k1, k4⟩ := HC.out w3 hb3
  obtain ⟨d0, d1, d2⟩ := bad_cells g1
  have g2 : w3.heap[w2.heap.size]? = some (.cells #[.int .i64 12, .int .i64 2, .string ⟨#[]⟩] 26 (0, 0)) := by rw [← hw3]; exact heap_new1 _ _
  obtain ⟨e0, e1, e2⟩ := bad_cells g2
  have HT3 : Hid (Tabs w3) := Lib.hid ((HT1.out _).on (by rw [World.size_alloc]; exact hb3))
  have HB3 : Hid (Below w.heap.size w w3) := Lib.hid (HB1.out.trans (((below_new w1 _).trans (hb3.mono (by omega))).mono HB1.out.size))
  rw [hw3]
  clear hw3 hb3 hb2 g1 g2 HC HT1 HB1
  unfold TkCells at k1 k4
  simp only [Nat.reduceMul] at k1 k4
  obtain ⟨x0, x1, x2, x3⟩ := k1
  obtain ⟨y0, y1, y2, y3⟩ := k4
  have z2 : w3.cell? ⟨A.block, A.off + 4 + 2, none⟩ = some (.string ⟨#[120, 39]⟩) := x2
  have z1 : w3.cell? ⟨A.block, A.off + 16 + 1, none⟩ = some (.int .i64 8) := y1
  have z3 : w3.cell? ⟨A.block, A.off + 16 + 3, none⟩ = some (.int .i64 12) := y3
  clear x0 x1 x2 x3 y0 y1 y2 y3
  go_wp2_with (first | (go_at_call 11; refine (words24 _ HT3.out).mono ?_; rintro e w4 ⟨Aw, cw, rfl, hb4⟩; have HT4 := Lib.hid (HT3.out.on hb4); have HB4 := Lib.hid hb4; clear hb4) | (go_at_call 12; refine (signs19 _ HT4.out).mono ?_; rintro e w5 ⟨As, cs, rfl, hb5⟩; have HB5 := Lib.hid hb5; clear hb5))
  go_ret
  exact ⟨rfl, below_then (below_then HB3.out HB4.out) HB5.out⟩
end Go.Proofs.YtkogfdbmgdajdaaDoor
