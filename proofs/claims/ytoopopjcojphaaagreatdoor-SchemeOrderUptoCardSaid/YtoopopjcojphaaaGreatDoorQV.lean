import Derived.Test.YtoopopjcojphaaaGreatDoorQU
/-
  SchemeOrder: THE WALK.
-/
namespace Go.Proofs.YtoopopjcojphaaaGreatDoor
open Go.ChangeShapes Go.WideShapes Go.ChangeAt Go.RowKit
set_option linter.unusedVariables false
theorem few_nil {w : World} {v : Int} {t : Tt} {x : Value} (h : SVal w v t x) : Calls Tryz.prog 8 #[x, .slice none 0 0] w fun e w' => SomeB e ∧ Below w.heap.size w w' := by
  have := lfew_any (l := []) (A := none) (c := 0) h (by simp) Rows.nil
  exact this
set_option maxRecDepth 100000 in
set_option maxHeartbeats 16000000 in
theorem order_run {w : World} {va vb vc : Int} {ta tb tc : Tt} {xa xb xc : Value} (ha : SVal w va ta xa) (hb : SVal w vb tb xb) (hc : SVal w vc tc xc) (za : (pre ta).length ≤ 1048576) (zb : (pre tb).length ≤ 1048576) (zc : (pre tc).length ≤ 1048576) (hT : Lx.Tabs w) (hT2 : Nu.Pow10 w) :
    Calls Tryz.prog 7 #[xa, xb, xc] w fun e w' => e = .returned (.bool true) ∧ Below w.heap.size w w' := by
  have Ha := Lib.hid ha
  obtain ⟨Aa, ca, rfl, _⟩ := ha
  obtain ⟨ka, na, sa, la⟩ := ta
  have Hb := Lib.hid hb
  obtain ⟨Ab, cb, rfl, _⟩ := hb
  obtain ⟨kb, nb, sb, lb⟩ := tb
  have Hc := Lib.hid hc
  obtain ⟨Ac, cc, rfl, _⟩ := hc
  obtain ⟨kc, nc, sc, lc⟩ := tc
  simp only [Tt.kind, Tt.num, Tt.name, Tt.args] at Ha Hb Hc ⊢
  obtain ⟨w0, hw0⟩ : ∃ w0, w0 = ((w.alloc (.cells #[.int .i64 va, .int .i64 ka, .int .i64 na, .string sa, .slice Aa la.length ca] 28)).alloc (.cells #[.int .i64 vb, .int .i64 kb, .int .i64 nb, .string sb, .slice Ab lb.length cb] 28)).alloc (.cells #[.int .i64 vc, .int .i64 kc, .int .i64 nc, .string sc, .slice Ac lc.length cc] 28) := ⟨_, rfl⟩
  have hb0 : Below w.heap.size w w0 := by rw [hw0]; exact ((below_new _ _).alloc (by simp) _).alloc (by simp; omega) _
  have ga : w0.heap[w.heap.size]? = some (.cells #[.int .i64 va, .int .i64 ka, .int .i64 na, .string sa, .slice Aa la.length ca] 28 (0, 0)) := by rw [hw0]; exact heap_alloc3_old _ _ _ _
  have gb : w0.heap[w.heap.size + 1]? = some (.cells #[.int .i64 vb, .int .i64 kb, .int .i64 nb, .string sb, .slice Ab lb.length cb] 28 (0, 0)) := by rw [hw0]; exact heap_alloc3_mid _ _ _ _
  have gc : w0.heap[w.heap.size + 2]? = some (.cells #[.int .i64 vc, .int .i64 kc, .int .i64 nc, .string sc, .slice Ac lc.length cc] 28 (0, 0)) := by rw [hw0]; exact heap_alloc3_new _ _ _ _
  have HW0 := Lib.hid hw0
  have HB0 := Lib.hid hb0
  have Ra : Hid (∀ W', Below w0.heap.size w0 W' → W'.heap[w.heap.size]? = some (.cells (List.toArray [.int .i64 va, .int .i64 ka, .int .i64 na, .string sa, .slice Aa la.length ca]) 28 (0, 0))) := Lib.hid fun W' h => row_on ga h
  have Rb : Hid (∀ W', Below w0.heap.size w0 W' → W'.heap[w.heap.size + 1]? = some (.cells (List.toArray [.int .i64 vb, .int .i64 kb, .int .i64 nb, .string sb, .slice Ab lb.length cb]) 28 (0, 0))) := Lib.hid fun W' h => row_on gb h
  have Rc : Hid (∀ W', Below w0.heap.size w0 W' → W'.heap[w.heap.size + 2]? = some (.cells (List.toArray [.int .i64 vc, .int .i64 kc, .int .i64 nc, .string sc, .slice Ac lc.length cc]) 28 (0, 0))) := Lib.hid fun W' h => row_on gc h
  have Fa : Hid (∀ W, Below w0.heap.size w0 W → Calls Tryz.prog 8 #[.agg #[.int .i64 va, .int .i64 ka, .int .i64 na, .string sa, .slice Aa la.length ca], .slice none 0 0] W fun e w' => SomeB e ∧ Below W.heap.size W w') := Lib.hid fun W hW => few_nil ((Ha.out.on hb0).on hW)
  have Fb : Hid (∀ W, Below w0.heap.size w0 W → Calls Tryz.prog 8 #[.agg #[.int .i64 vb, .int .i64 kb, .int .i64 nb, .string sb, .slice Ab lb.length cb], .slice none 0 0] W fun e w' => SomeB e ∧ Below W.heap.size W w') := Lib.hid fun W hW => few_nil ((Hb.out.on hb0).on hW)
  have Fc : Hid (∀ W, Below w0.heap.size w0 W → Calls Tryz.prog 8 #[.agg #[.int .i64 vc, .int .i64 kc, .int .i64 nc, .string sc, .slice Ac lc.length cc], .slice none 0 0] W fun e w' => SomeB e ∧ Below W.heap.size W w') := Lib.hid fun W hW => few_nil ((Hc.out.on hb0).on hW)
  have HKN : Hid (∀ W, Below w0.heap.size w0 W → Calls Tryz.prog 9 #[] W fun e w' => e = .returned (.bool true) ∧ Below W.heap.size W w') := Lib.hid fun W hW => knows_any W ((hT.on hb0).on hW) ((hT2.on hb0).on hW)
  have Maa : Hid (∀ W, Below w0.heap.size w0 W → Calls Tryz.prog 20 #[.agg #[.int .i64 va, .int .i64 ka, .int .i64 na, .string sa, .slice Aa la.length ca], .agg #[.int .i64 va, .int .i64 ka, .int .i64 na, .string sa, .slice Aa la.length ca]] W fun e w' => e = .returned (.bool (rightS va (.mk ka na sa la))) ∧ Below W.heap.size W w') := Lib.hid fun W hW => by
    have := smore_any ((Ha.out.on hb0).on hW) ((Ha.out.on hb0).on hW) za za
    rwa [more_refl] at this
  have Ra2 : Hid (∀ W, Below w0.heap.size w0 W → Calls Tryz.prog 13 #[.agg #[.int .i64 va, .int .i64 ka, .int .i64 na, .string sa, .slice Aa la.length ca]] W fun e w' => e = .returned (.bool (rightS va (.mk ka na sa la))) ∧ Below W.heap.size W w') := Lib.hid fun W hW => sright_val ((Ha.out.on hb0).on hW) za
  have Mab : Hid (∀ W, Below w0.heap.size w0 W → Calls Tryz.prog 20 #[.agg #[.int .i64 va, .int .i64 ka, .int .i64 na, .string sa, .slice Aa la.length ca], .agg #[.int .i64 vb, .int .i64 kb, .int .i64 nb, .string sb, .slice Ab lb.length cb]] W fun e w' => e = .returned (.bool (moreB va (.mk ka na sa la) vb (.mk kb nb sb lb))) ∧ Below W.heap.size W w') := Lib.hid fun W hW => smore_any ((Ha.out.on hb0).on hW) ((Hb.out.on hb0).on hW) za zb
  have Mbc : Hid (∀ W, Below w0.heap.size w0 W → Calls Tryz.prog 20 #[.agg #[.int .i64 vb, .int .i64 kb, .int .i64 nb, .string sb, .slice Ab lb.length cb], .agg #[.int .i64 vc, .int .i64 kc, .int .i64 nc, .string sc, .slice Ac lc.length cc]] W fun e w' => e = .returned (.bool (moreB vb (.mk kb nb sb lb) vc (.mk kc nc sc lc))) ∧ Below W.heap.size W w') := Lib.hid fun W hW => smore_any ((Hb.out.on hb0).on hW) ((Hc.out.on hb0).on hW) zb zc
  have Mac : Hid (∀ W, Below w0.heap.size w0 W → Calls Tryz.prog 20 #[.agg #[.int .i64 va, .int .i64 ka, .int .i64 na, .string sa, .slice Aa la.length ca], .agg #[.int .i64 vc, .int .i64 kc, .int .i64 nc, .string sc, .slice Ac lc.length cc]] W fun e w' => e = .returned (.bool (moreB va (.mk ka na sa la) vc (.mk kc nc sc lc))) ∧ Below W.heap.size W w') := Lib.hid fun W hW => smore_any ((Ha.out.on hb0).on hW) ((Hc.out.on hb0).on hW) za zc
  have Sab : Hid (∀ W, Below w0.heap.size w0 W → Calls Tryz.prog 22 #[.agg #[.int .i64 va, .int .i64 ka, .int .i64 na, .string sa, .slice Aa la.length ca], .agg #[.int .i64 vb, .int .i64 kb, .int .i64 nb, .string sb, .slice Ab lb.length cb]] W fun e w' => e = .returned (.bool (sameS va (.mk ka na sa la) vb (.mk kb nb sb lb))) ∧ Below W.heap.size W w') := Lib.hid fun W hW => by
    have := ssame_any ((Ha.out.on hb0).on hW) ((Hb.out.on hb0).on hW) za zb
    exact this
  have Sba : Hid (∀ W, Below w0.heap.size w0 W → Calls Tryz.prog 22 #[.agg #[.int .i64 vb, .int .i64 kb, .int .i64 nb, .string sb, .slice Ab lb.length cb], .agg #[.int .i64 va, .int .i64 ka, .int .i64 na, .string sa, .slice Aa la.length ca]] W fun e w' => e = .returned (.bool (sameS va (.mk ka na sa la) vb (.mk kb nb sb lb))) ∧ Below W.heap.size W w') := Lib.hid fun W hW => by
    have := ssame_any ((Hb.out.on hb0).on hW) ((Ha.out.on hb0).on hW) zb za
    rwa [same_symm] at this
  have HTR : Hid (moreB va (.mk ka na sa la) vb (.mk kb nb sb lb) = true → moreB vb (.mk kb nb sb lb) vc (.mk kc nc sc lc) = true → moreB va (.mk ka na sa la) vc (.mk kc nc sc lc) = true) := Lib.hid fun h1 h2 => more_trans h1 h2
  clear hw0 hb0 ga gb gc Ha Hb Hc hT hT2
  obtain ⟨m1, hm1⟩ : ∃ m1, m1 = moreB va (.mk ka na sa la) vb (.mk kb nb sb lb) := ⟨_, rfl⟩
  rw [← hm1] at Mab HTR
  clear hm1
  obtain ⟨m2, hm2⟩ : ∃ m2, m2 = moreB vb (.mk kb nb sb lb) vc (.mk kc nc sc lc) := ⟨_, rfl⟩
  rw [← hm2] at Mbc HTR
  clear hm2
  obtain ⟨m3, hm3⟩ : ∃ m3, m3 = moreB va (.mk ka na sa la) vc (.mk kc nc sc lc) := ⟨_, rfl⟩
  rw [← hm3] at Mac HTR
  clear hm3
  obtain ⟨sm, hsm⟩ : ∃ sm, sm = sameS va (.mk ka na sa la) vb (.mk kb nb sb lb) := ⟨_, rfl⟩
  rw [← hsm] at Sab Sba
  clear hsm
  obtain ⟨rr, hrr⟩ : ∃ rr, rr = rightS va (.mk ka na sa la) := ⟨_, rfl⟩
  rw [← hrr] at Maa Ra2
  clear hrr
  go_enter Tryz.func7, Tryz.ntmps7
  go_upto_region 1 with fail
  rw [← HW0.out]
  go_wp2_with (refine wpList_load_row rfl 28 _ rfl (w.heap.size) rfl 28 _ (0, 0) _ (Ra.out _ (Below.refl _ _)) Tryz.underlying28 rfl (scSize _ _ _ _ _) ?_)
  refine (Fa.out w0 (Below.refl _ _)).mono ?_
  rintro e w1 ⟨⟨b1, rfl⟩, hb1⟩
  have HB1 := Lib.hid (hb1)
  clear hb1
  cases b1
  case false =>
    go_wp2_with fail
    refine (HKN.out w1 HB1.out).mono ?_
    rintro e w9 ⟨rfl, hb9⟩
    have HB9 := Lib.hid (below_then HB0.out (below_then HB1.out hb9))
    clear hb9
    go_wp2
    go_ret
    exact ⟨rfl, HB9.out⟩
  go_wp2_with (refine wpList_load_row_yes (by kernel_rfl) 28 _ rfl (w.heap.size + 1) rfl 28 _ (0, 0) _ (Rb.out _ HB1.out) Tryz.underlying28 rfl (scSize _ _ _ _ _) ?_)
  refine (Fb.out w1 HB1.out).mono ?_
  rintro e w2 ⟨⟨b2, rfl⟩, hb2⟩
  have HB2 := Lib.hid (below_then HB1.out hb2)
  clear hb2
  cases b2
  case false =>
    go_wp2_with fail
    refine (HKN.out w2 HB2.out).mono ?_
    rintro e w9 ⟨rfl, hb9⟩
    have HB9 := Lib.hid (below_then HB0.out (below_then HB2.out hb9))
    clear hb9
    go_wp2
    go_ret
    exact ⟨rfl, HB9.out⟩
  go_wp2_with (refine wpList_load_row_yes (by kernel_rfl) 28 _ rfl (w.heap.size + 2) rfl 28 _ (0, 0) _ (Rc.out _ HB2.out) Tryz.underlying28 rfl (scSize _ _ _ _ _) ?_)
  refine (Fc.out w2 HB2.out).mono ?_
  rintro e w3 ⟨⟨b3, rfl⟩, hb3⟩
  have HB3 := Lib.hid (below_then HB2.out hb3)
  clear hb3
  cases b3
  case false =>
    go_wp2_with fail
    refine (HKN.out w3 HB3.out).mono ?_
    rintro e w9 ⟨rfl, hb9⟩
    have HB9 := Lib.hid (below_then HB0.out (below_then HB3.out hb9))
    clear hb9
    go_wp2
    go_ret
    exact ⟨rfl, HB9.out⟩
  have qn1 : (rr != rr) = false := by simp
  have qn2 : (sm != sm) = false := by simp
  have Ra3 : Hid (∀ W', Below w3.heap.size w3 W' → W'.heap[w.heap.size]? = some (.cells (List.toArray [.int .i64 va, .int .i64 ka, .int .i64 na, .string sa, .slice Aa la.length ca]) 28 (0, 0))) := Lib.hid fun W' h => Ra.out _ (below_then HB3.out h)
  have Rb3 : Hid (∀ W', Below w3.heap.size w3 W' → W'.heap[w.heap.size + 1]? = some (.cells (List.toArray [.int .i64 vb, .int .i64 kb, .int .i64 nb, .string sb, .slice Ab lb.length cb]) 28 (0, 0))) := Lib.hid fun W' h => Rb.out _ (below_then HB3.out h)
  have Maa3 : Hid (∀ W', Below w3.heap.size w3 W' → Calls Tryz.prog 20 #[.agg #[.int .i64 va, .int .i64 ka, .int .i64 na, .string sa, .slice Aa la.length ca], .agg #[.int .i64 va, .int .i64 ka, .int .i64 na, .string sa, .slice Aa la.length ca]] W' fun e w' => e = .returned (.bool rr) ∧ Below w3.heap.size w3 w') := Lib.hid fun W' hW => calls_S hW (Maa.out _ (below_then HB3.out hW))
  have Ra23 : Hid (∀ W', Below w3.heap.size w3 W' → Calls Tryz.prog 13 #[.agg #[.int .i64 va, .int .i64 ka, .int .i64 na, .string sa, .slice Aa la.length ca]] W' fun e w' => e = .returned (.bool rr) ∧ Below w3.heap.size w3 w') := Lib.hid fun W' hW => calls_S hW (Ra2.out _ (below_then HB3.out hW))
  have Sab3 : Hid (∀ W', Below w3.heap.size w3 W' → Calls Tryz.prog 22 #[.agg #[.int .i64 va, .int .i64 ka, .int .i64 na, .string sa, .slice Aa la.length ca], .agg #[.int .i64 vb, .int .i64 kb, .int .i64 nb, .string sb, .slice Ab lb.length cb]] W' fun e w' => e = .returned (.bool sm) ∧ Below w3.heap.size w3 w') := Lib.hid fun W' hW => calls_S hW (Sab.out _ (below_then HB3.out hW))
  have Sba3 : Hid (∀ W', Below w3.heap.size w3 W' → Calls Tryz.prog 22 #[.agg #[.int .i64 vb, .int .i64 kb, .int .i64 nb, .string sb, .slice Ab lb.length cb], .agg #[.int .i64 va, .int .i64 ka, .int .i64 na, .string sa, .slice Aa la.length ca]] W' fun e w' => e = .returned (.bool sm) ∧ Below w3.heap.size w3 w') := Lib.hid fun W' hW => calls_S hW (Sba.out _ (below_then HB3.out hW))
  go_wp2
  refine wp_region_S (fun w' => Below w3.heap.size w3 w') (by kernel_rfl) (below_drew1 (Below.refl _ _)) ?_
  refine wpS_take (v := .agg #[.int .i64 va, .int .i64 ka, .int .i64 na, .string sa, .slice Aa la.length ca]) (a' := ?_) 0 rfl (by kernel_rfl) (by kernel_rfl) (by kernel_rfl) (stepS_yields ?_) ?_ ?_
  rotate_left 1
  · exact yieldsIf_load_mid (by kernel_rfl) 28 (.tmp 3) rfl (w.heap.size) 0 (by go_simp) _ _ (fun wS hS => range_row (Ra3.out _ hS)) Tryz.underlying28 rfl (scSize _ _ _ _ _)
  · go_simp; with_reducible rfl
  refine wpS_take (v := .agg #[.int .i64 va, .int .i64 ka, .int .i64 na, .string sa, .slice Aa la.length ca]) (a' := ?_) 1 rfl (by kernel_rfl) (by kernel_rfl) (by kernel_rfl) (stepS_yields ?_) ?_ ?_
  rotate_left 1
  · exact yieldsIf_load_mid (by kernel_rfl) 28 (.tmp 3) rfl (w.heap.size) 0 (by go_simp) _ _ (fun wS hS => range_row (Ra3.out _ hS)) Tryz.underlying28 rfl (scSize _ _ _ _ _)
  · go_simp; with_reducible rfl
  refine wpS_take (v := ?_) (a' := ?_) 2 rfl (by kernel_rfl) (by kernel_rfl) (by kernel_rfl) ?_ ?_ ?_
  rotate_left 2
  · apply stepS_call (by kernel_rfl)
    · intro wS hS; go_simp; with_reducible exact ⟨rfl, rfl⟩
    intro wS hS
    with_reducible exact Maa3.out _ hS
  · go_simp; with_reducible rfl
  refine wpS_take (v := .agg #[.int .i64 va, .int .i64 ka, .int .i64 na, .string sa, .slice Aa la.length ca]) (a' := ?_) 3 rfl (by kernel_rfl) (by kernel_rfl) (by kernel_rfl) (stepS_yields ?_) ?_ ?_
  rotate_left 1
  · exact yieldsIf_load_mid (by kernel_rfl) 28 (.tmp 3) rfl (w.heap.size) 0 (by go_simp) _ _ (fun wS hS => range_row (Ra3.out _ hS)) Tryz.underlying28 rfl (scSize _ _ _ _ _)
  · go_simp; with_reducible rfl
  refine wpS_take (v := ?_) (a' := ?_) 4 rfl (by kernel_rfl) (by kernel_rfl) (by kernel_rfl) ?_ ?_ ?_
  rotate_left 2
  · apply stepS_call (by kernel_rfl)
    · intro wS hS; go_simp; with_reducible exact ⟨rfl, rfl⟩
    intro wS hS
    with_reducible exact Ra23.out _ hS
  · go_simp; with_reducible rfl
  refine wpS_take (v := ?_) (a' := ?_) 5 rfl (by kernel_rfl) (by kernel_rfl) (by kernel_rfl) ?_ ?_ ?_
  rotate_left 2
  · refine stepS_yield (by kernel_rfl) ?_; intro wS hS; clear hS; go_simp; with_reducible rfl
  · go_simp; with_reducible rfl
  refine wpS_take (v := ?_) (a' := ?_) 6 rfl (by kernel_rfl) (by kernel_rfl) (by kernel_rfl) ?_ ?_ ?_
  rotate_left 2
  · refine stepS_yield (by kernel_rfl) ?_; intro wS hS; clear hS; go_simp; with_reducible rfl
  · go_simp; with_reducible rfl
  refine wpS_take (v := .agg #[.int .i64 va, .int .i64 ka, .int .i64 na, .string sa, .slice Aa la.length ca]) (a' := ?_) 7 rfl (by kernel_rfl) (by kernel_rfl) (by kernel_rfl) (stepS_yields ?_) ?_ ?_
  rotate_left 1
  · exact yieldsIf_load_mid (by kernel_rfl) 28 (.tmp 3) rfl (w.heap.size) 0 (by go_simp) _ _ (fun wS hS => range_row (Ra3.out _ hS)) Tryz.underlying28 rfl (scSize _ _ _ _ _)
  · go_simp; with_reducible rfl
  refine wpS_take (v := .agg #[.int .i64 vb, .int .i64 kb, .int .i64 nb, .string sb, .slice Ab lb.length cb]) (a' := ?_) 8 rfl (by kernel_rfl) (by kernel_rfl) (by kernel_rfl) (stepS_yields ?_) ?_ ?_
  rotate_left 1
  · exact yieldsIf_load_mid (by kernel_rfl) 28 (.tmp 4) rfl (w.heap.size + 1) 0 (by go_simp) _ _ (fun wS hS => range_row (Rb3.out _ hS)) Tryz.underlying28 rfl (scSize _ _ _ _ _)
  · go_simp; with_reducible rfl
  refine wpS_take (v := ?_) (a' := ?_) 9 rfl (by kernel_rfl) (by kernel_rfl) (by kernel_rfl) ?_ ?_ ?_
  rotate_left 2
  · apply stepS_call (by kernel_rfl)
    · intro wS hS; go_simp; with_reducible exact ⟨rfl, rfl⟩
    intro wS hS
    with_reducible exact Sab3.out _ hS
  · go_simp; with_reducible rfl
  refine wpS_take (v := .agg #[.int .i64 vb, .int .i64 kb, .int .i64 nb, .string sb, .slice Ab lb.length cb]) (a' := ?_) 10 rfl (by kernel_rfl) (by kernel_rfl) (by kernel_rfl) (stepS_yields ?_) ?_ ?_
  rotate_left 1
  · exact yieldsIf_load_mid (by kernel_rfl) 28 (.tmp 4) rfl (w.heap.size + 1) 0 (by go_simp) _ _ (fun wS hS => range_row (Rb3.out _ hS)) Tryz.underlying28 rfl (scSize _ _ _ _ _)
  · go_simp; with_reducible rfl
  refine wpS_take (v := .agg #[.int .i64 va, .int .i64 ka, .int .i64 na, .string sa, .slice Aa la.length ca]) (a' := ?_) 11 rfl (by kernel_rfl) (by kernel_rfl) (by kernel_rfl) (stepS_yields ?_) ?_ ?_
  rotate_left 1
  · exact yieldsIf_load_mid (by kernel_rfl) 28 (.tmp 3) rfl (w.heap.size) 0 (by go_simp) _ _ (fun wS hS => range_row (Ra3.out _ hS)) Tryz.underlying28 rfl (scSize _ _ _ _ _)
  · go_simp; with_reducible rfl
  refine wpS_take (v := ?_) (a' := ?_) 12 rfl (by kernel_rfl) (by kernel_rfl) (by kernel_rfl) ?_ ?_ ?_
  rotate_left 2
  · apply stepS_call (by kernel_rfl)
    · intro wS hS; go_simp; with_reducible exact ⟨rfl, rfl⟩
    intro wS hS
    with_reducible exact Sba3.out _ hS
  · go_simp; with_reducible rfl
  refine wpS_take (v := ?_) (a' := ?_) 13 rfl (by kernel_rfl) (by kernel_rfl) (by kernel_rfl) ?_ ?_ ?_
  rotate_left 2
  · refine stepS_yield (by kernel_rfl) ?_; intro wS hS; clear hS; go_simp; with_reducible rfl
  · go_simp; with_reducible rfl
  refine wpS_take (v := ?_) (a' := ?_) 14 rfl (by kernel_rfl) (by kernel_rfl) (by kernel_rfl) ?_ ?_ ?_
  rotate_left 2
  · refine stepS_yield (by kernel_rfl) ?_; intro wS hS; clear hS; go_simp; with_reducible rfl
  · go_simp; with_reducible rfl
  refine wpS_end (by kernel_rfl) ?_
  intro w4 hS4
  have HB4 := Lib.hid (below_then HB3.out hS4)
  clear hS4
  go_wp2_with (first | refine wpList_load_row rfl 28 _ rfl (w.heap.size) rfl 28 _ (0, 0) _ (Ra.out _ HB4.out) Tryz.underlying28 rfl (scSize _ _ _ _ _) ?_ | refine wpList_load_row rfl 28 _ rfl (w.heap.size + 1) rfl 28 _ (0, 0) _ (Rb.out _ HB4.out) Tryz.underlying28 rfl (scSize _ _ _ _ _) ?_)
  refine (Mab.out w4 HB4.out).mono ?_
  rintro e w5 ⟨rfl, hb5⟩
  have HB5 := Lib.hid (below_then HB4.out hb5)
  clear hb5
  cases m1
  case false =>
    go_wp2_with fail
    refine (HKN.out w5 HB5.out).mono ?_
    rintro e w9 ⟨rfl, hb9⟩
    have HB9 := Lib.hid (below_then HB0.out (below_then HB5.out hb9))
    clear hb9
    go_wp2
    go_ret
    exact ⟨rfl, HB9.out⟩
  go_wp2_with (first | refine wpList_load_row_yes (by kernel_rfl) 28 _ rfl (w.heap.size + 1) rfl 28 _ (0, 0) _ (Rb.out _ HB5.out) Tryz.underlying28 rfl (scSize _ _ _ _ _) ?_ | refine wpList_load_row_yes (by kernel_rfl) 28 _ rfl (w.heap.size + 2) rfl 28 _ (0, 0) _ (Rc.out _ HB5.out) Tryz.underlying28 rfl (scSize _ _ _ _ _) ?_)
  refine (Mbc.out w5 HB5.out).mono ?_
  rintro e w6 ⟨rfl, hb6⟩
  have HB6 := Lib.hid (below_then HB5.out hb6)
  clear hb6
  cases m2
  case false =>
    go_wp2_with fail
    refine (HKN.out w6 HB6.out).mono ?_
    rintro e w9 ⟨rfl, hb9⟩
    have HB9 := Lib.hid (below_then HB0.out (below_then HB6.out hb9))
    clear hb9
    go_wp2
    go_ret
    exact ⟨rfl, HB9.out⟩
  obtain rfl : m3 = true := by simpa using HTR.out
  go_wp2_with (first | refine wpList_load_row_yes (by kernel_rfl) 28 _ rfl (w.heap.size) rfl 28 _ (0, 0) _ (Ra.out _ HB6.out) Tryz.underlying28 rfl (scSize _ _ _ _ _) ?_ | refine wpList_load_row_yes (by kernel_rfl) 28 _ rfl (w.heap.size + 2) rfl 28 _ (0, 0) _ (Rc.out _ HB6.out) Tryz.underlying28 rfl (scSize _ _ _ _ _) ?_)
  refine (Mac.out w6 HB6.out).mono ?_
  rintro e w7 ⟨rfl, hb7⟩
  have HB7 := Lib.hid (below_then HB6.out hb7)
  clear hb7
  go_wp2_with fail
  refine (HKN.out w7 HB7.out).mono ?_
  rintro e w9 ⟨rfl, hb9⟩
  have HB9 := Lib.hid (below_then HB0.out (below_then HB7.out hb9))
  clear hb9
  go_wp2
  go_ret
  exact ⟨rfl, HB9.out⟩
end Go.Proofs.YtoopopjcojphaaaGreatDoor
