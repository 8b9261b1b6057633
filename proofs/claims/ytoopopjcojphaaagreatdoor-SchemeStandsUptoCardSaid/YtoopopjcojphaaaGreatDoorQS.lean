import Derived.Test.YtoopopjcojphaaaGreatDoorQL
import Derived.Test.YtoopopjcojphaaaGreatDoorQQ
import Derived.Test.YtoopopjcojphaaaGreatDoorQR
import Derived.Test.YtoopopjcojphaaaGreatDoorQE
/-
  THE REFERENCE's TEXTS OF TYPES, III: Show.
-/
namespace Go.Proofs.YtoopopjcojphaaaGreatDoor
open Go.ChangeShapes Go.WideShapes Go.ChangeAt Go.RowKit
set_option linter.unusedVariables false
set_option maxHeartbeats 4000000 in
theorem rshow10_val {w : World} {v : Int} {t : Tt} {x : Value} (h : SVal w v t x) (hsz : (pre t).length ≤ 1048576) : Calls Tryz.prog 16 #[x] w fun e w' => e = .returned (.string ⟨(showS v t).toArray⟩) ∧ Below w.heap.size w w' := by
  have H := Lib.hid h
  obtain ⟨A, c, rfl, _⟩ := h
  obtain ⟨k, n, s, l⟩ := t
  simp only [Tt.kind, Tt.num, Tt.name, Tt.args] at H ⊢
  obtain ⟨w0, hw0⟩ : ∃ w0, w0 = w.alloc (.cells #[.int .i64 v, .int .i64 k, .int .i64 n, .string s, .slice A l.length c] 28) := ⟨_, rfl⟩
  have hb0 : Below w.heap.size w w0 := by rw [hw0]; exact below_new _ _
  have hg0 : w0.heap[w.heap.size]? = some (.cells #[.int .i64 v, .int .i64 k, .int .i64 n, .string s, .slice A l.length c] 28 (0, 0)) := by rw [hw0]; exact heap_alloc_new _ _
  have HB0 := Lib.hid hb0
  have HG0 := Lib.hid hg0
  have HW := Lib.hid hw0
  have HC := Lib.hid (rsright_val (H.out.on hb0) hsz)
  have HT := Lib.hid (H.out.on hb0)
  have HS : Hid (showS v (.mk k n s l) = if rightS v (.mk k n s l) = true then txT (vtS v) (.mk k n s l) else []) := Lib.hid rfl
  clear hb0 hg0 hw0
  cases hr : rightS v (.mk k n s l) with
  | false =>
    rw [hr] at HC
    have HR : Hid ((⟨(showS v (.mk k n s l)).toArray⟩ : ByteArray) = ⟨#[]⟩) := Lib.hid (by rw [HS.out, hr]; rfl)
    rw [HR.out]
    clear hr
    go_enter Tryz.func16, Tryz.ntmps16
    go_wp2_with fail
    rw [← HW.out]
    refine HC.out.mono ?_
    rintro e w1 ⟨rfl, hb1⟩
    have HB1 := Lib.hid (below_then HB0.out hb1)
    clear hb1
    go_wp2
    go_ret
    exact ⟨rfl, HB1.out⟩
  | true =>
    rw [hr] at HC
    obtain ⟨h1, h2, h3, h4⟩ := rightS_iff.1 hr
    have HTX := Lib.hid (fun W x (hx : Val W (.mk k n s l) x) => rtext_any h1 h2 _ (by omega) _ (Nat.le_refl _) h4 W x hx)
    have HR : Hid ((⟨(showS v (.mk k n s l)).toArray⟩ : ByteArray) = ⟨(txT (vtS v) (.mk k n s l)).toArray⟩) := Lib.hid (by rw [HS.out, if_pos hr])
    rw [HR.out]
    clear hr h1 h2 h3 h4
    go_enter Tryz.func16, Tryz.ntmps16
    go_wp2_with fail
    rw [← HW.out]
    refine HC.out.mono ?_
    rintro e w1 ⟨rfl, hb1⟩
    have HB1 := Lib.hid (below_then HB0.out hb1)
    have HRG : Hid (w1.rangeAt w.heap.size 1 [.int .i64 k, .int .i64 n, .string s, .slice A l.length c]) := Lib.hid (range_tail (row_on HG0.out hb1))
    have HRG0 := Lib.hid (row_on HG0.out hb1)
    have q0 : w1.cell? ⟨w.heap.size, 0, none⟩ = some (.int .i64 v) := by rw [cell_of_row w1 _ 0 _ _ _ HRG0.out]; rfl
    have HV1 := Lib.hid (HT.out.on hb1).ty
    have hlt1 := lt_of_cells HRG0.out
    clear hb1
    go_wp2_with (refine wpList_load_mid rfl 25 _ rfl w.heap.size 1 rfl _ _ HRG.out Tryz.underlying25 rfl (tySize _ _ _ _) ?_)
    refine (HTX.out _ _ HV1.out).mono ?_
    rintro e w2 ⟨rfl, hb2⟩
    have HB2 := Lib.hid (below_then HB1.out hb2)
    clear hb2
    go_wp2
    go_ret
    exact ⟨rfl, HB2.out⟩
end Go.Proofs.YtoopopjcojphaaaGreatDoor
/-
  THE LAW's OWN PARTS: v, fn, alike; scheme.Same.
-/
namespace Go.Proofs.YtoopopjcojphaaaGreatDoor
open Go.ChangeShapes Go.WideShapes Go.ChangeAt Go.RowKit
set_option linter.unusedVariables false
theorem lawv_any {w : World} {n : Int} (hn : -9223372036854775808 ≤ n ∧ n ≤ 9223372036854775807) : Calls Tryz.prog 25 #[.int .i64 n] w (Gave w (vT n)) := by
  go_enter Tryz.func25, Tryz.ntmps25
  go_wp2
  refine bodyPost_ret (v := .agg #[.int .i64 1, .int .i64 n, .string ⟨#[]⟩, .slice none 0 0]) (results_cell_row rfl _ _ w.heap.size 25 _ (0, 0) _ rfl (heap_alloc_new _ _) Tryz.underlying25 rfl (tySizeA _ _ _ _)) rfl ?_
  exact ⟨_, rfl, val_leaf _ 1 n ⟨#[]⟩ hn (by decide), below_new _ _⟩
set_option maxRecDepth 100000 in
set_option maxHeartbeats 4000000 in
theorem lawfn_any {w : World} {a b : Tt} {x y : Value} (ha : Val w a x) (hb : Val w b y) : Calls Tryz.prog 27 #[x, y] w (Gave w (.mk 2 0 ⟨#[45, 62]⟩ [a, b])) := by
  obtain ⟨A, c, rfl, ha⟩ := ha
  obtain ⟨A', c', rfl, hb⟩ := hb
  obtain ⟨k, n, s, l⟩ := a
  obtain ⟨k', n', s', l'⟩ := b
  simp only [Tt.kind, Tt.num, Tt.name, Tt.args] at ha hb ⊢
  obtain ⟨w3, hw3⟩ : ∃ w3, w3 = (((w.alloc (.cells #[.int .i64 k, .int .i64 n, .string s, .slice A l.length c] 25)).alloc (.cells #[.int .i64 k', .int .i64 n', .string s', .slice A' l'.length c'] 25)).alloc (.cells #[.int .i64 0, .int .i64 0, .string ⟨#[]⟩, .slice none 0 0] 25)) := ⟨_, rfl⟩
  have hb3 : Below w.heap.size w w3 := by rw [hw3]; exact ((below_new w _).alloc (by simp) _).alloc (by simp; omega) _
  have hz3 : w3.heap.size = w.heap.size + 3 := by rw [hw3]; simp
  have g0 : w3.heap[w.heap.size]? = some (.cells #[.int .i64 k, .int .i64 n, .string s, .slice A l.length c] 25 (0, 0)) := by rw [hw3]; exact heap_alloc3_old _ _ _ _
  have g1 : w3.heap[w.heap.size + 1]? = some (.cells #[.int .i64 k', .int .i64 n', .string s', .slice A' l'.length c'] 25 (0, 0)) := by rw [hw3]; exact heap_alloc3_mid _ _ _ _
  have g2 : w3.heap[w.heap.size + 2]? = some (.cells #[.int .i64 0, .int .i64 0, .string ⟨#[]⟩, .slice none 0 0] 25 (0, 0)) := by rw [hw3]; exact heap_alloc3_new _ _ _ _
  have HA := Lib.hid (And.intro ha hb)
  have HW3 := Lib.hid hw3
  have HG := Lib.hid (And.intro g0 (And.intro g1 g2))
  have HB3 := Lib.hid hb3
  clear ha hb hw3 g0 g1 g2 hb3
  go_enter Tryz.func27, Tryz.ntmps27
  go_upto_region 1 with fail
  rw [← HW3.out]
  go_wp2_with (first
    | refine wpList_load_row rfl 25 _ rfl w.heap.size rfl 25 _ (0, 0) _ HG.out.1 Tryz.underlying25 rfl (tySizeA _ _ _ _) ?_
    | refine wpList_load_row rfl 25 _ rfl (w.heap.size + 1) rfl 25 _ (0, 0) _ HG.out.2.1 Tryz.underlying25 rfl (tySizeA _ _ _ _) ?_
    | refine wpList_store_row rfl 25 _ _ rfl (w.heap.size + 2) _ rfl rfl 25 #[.int .i64 0, .int .i64 0, .string ⟨#[]⟩, .slice none 0 0] (row_on HG.out.2.2 (below_new _ _)) (tySizeA _ _ _ _) rfl (one4 _ _ _ _ _ _) ?_)
  obtain ⟨w4, hw4⟩ : ∃ w4, w4 = w3.alloc (.cells #[.int .i64 k, .int .i64 n, .string s, .slice A l.length c, .int .i64 k', .int .i64 n', .string s', .slice A' l'.length c'] 25) := ⟨_, rfl⟩
  have g4 : w4.heap[w.heap.size + 3]? = some (.cells #[.int .i64 k, .int .i64 n, .string s, .slice A l.length c, .int .i64 k', .int .i64 n', .string s', .slice A' l'.length c'] 25 (0, 0)) := by rw [hw4, ← hz3]; exact heap_alloc_new _ _
  have g2 := row_on HG.out.2.2 (below_new w3 (.cells #[.int .i64 k, .int .i64 n, .string s, .slice A l.length c, .int .i64 k', .int .i64 n', .string s', .slice A' l'.length c'] 25))
  have hb4 : Below w.heap.size w w4 := by rw [hw4]; exact HB3.out.alloc (by omega) _
  have hz4 : w4.heap.size = w.heap.size + 4 := by rw [hw4]; simp [hz3]
  rw [← hw4] at g2 ⊢
  have hrows := Rows.block (R := TyR) (sz := 4) (S := Lt w.heap.size) (l := [Tt.mk k n s l, .mk k' n' s' l']) (rows := [[.int .i64 k, .int .i64 n, .string s, .slice A l.length c], [.int .i64 k', .int .i64 n', .string s', .slice A' l'.length c']]) g4 (by
      intro j u hj; simpa using hj) (by simp) rfl (by
      intro i a r ha hr
      match i, ha, hr with
      | 0, ha, hr => simp only [List.getElem?_cons_zero, Option.some.injEq] at ha hr; subst ha; subst hr; exact TyR.keep (Same.of_below hb4 fun b hb => hb) HA.out.1
      | 1, ha, hr => simp only [List.getElem?_cons_succ, List.getElem?_cons_zero, Option.some.injEq] at ha hr; subst ha; subst hr; exact TyR.keep (Same.of_below hb4 fun b hb => hb) HA.out.2
      | i + 2, ha, _ => simp at ha)
  have hty := TyR.mk (k := 2) (n := 0) (s := ⟨#[45, 62]⟩) (c := 2) (by omega) (by simp) (by decide) hrows
  refine bodyPost_ret (v := .agg #[.int .i64 2, .int .i64 0, .string ⟨#[45, 62]⟩, .slice (some ⟨w.heap.size + 3, 0, none⟩) 2 2]) (results_cell_row rfl _ _ (w.heap.size + 2) 25 _ (0, 0) _ rfl (setRow_row g2) Tryz.underlying25 rfl (tySizeA _ _ _ _)) rfl ?_
  refine ⟨_, rfl, ⟨_, _, rfl, TyR.more ?_ (TyR.keep ?_ hty)⟩, below_setRow hb4 (by omega)⟩
  · rintro x (hx | rfl)
    · show x < _; rw [size_setRow]; have : x < w.heap.size := hx; omega
    · show _ < _; rw [size_setRow]; omega
  · rintro x y (hx | rfl)
    · exact World.cell?_of_block (a := ⟨x, y, none⟩) (setRow_old (by have : x < w.heap.size := hx; show x ≠ _; omega))
    · exact World.cell?_of_block (a := ⟨w.heap.size + 3, y, none⟩) (setRow_old (by show w.heap.size + 3 ≠ _; omega))
set_option maxRecDepth 100000 in
set_option maxHeartbeats 4000000 in
theorem ssame_any {w : World} {va vb : Int} {ta tb : Tt} {xa xb : Value} (ha : SVal w va ta xa) (hb : SVal w vb tb xb) (hsa : (pre ta).length ≤ 1048576) (hsb : (pre tb).length ≤ 1048576) :
    Calls Tryz.prog 22 #[xa, xb] w fun e w' => e = .returned (.bool (sameS va ta vb tb)) ∧ Below w.heap.size w w' := by
  have HA := Lib.hid ha
  have HBv := Lib.hid hb
  obtain ⟨A, c, rfl, _⟩ := ha
  obtain ⟨A', c', rfl, _⟩ := hb
  obtain ⟨k, n, s, l⟩ := ta
  obtain ⟨k', n', s', l'⟩ := tb
  simp only [Tt.kind, Tt.num, Tt.name, Tt.args] at HA HBv ⊢
  obtain ⟨w0, hw0⟩ : ∃ w0, w0 = (w.alloc (.cells #[.int .i64 va, .int .i64 k, .int .i64 n, .string s, .slice A l.length c] 28)).alloc (.cells #[.int .i64 vb, .int .i64 k', .int .i64 n', .string s', .slice A' l'.length c'] 28) := ⟨_, rfl⟩
  have hb0 : Below w.heap.size w w0 := by rw [hw0]; exact (below_new _ _).alloc (by simp) _
  have g0 : w0.heap[w.heap.size]? = some (.cells #[.int .i64 va, .int .i64 k, .int .i64 n, .string s, .slice A l.length c] 28 (0, 0)) := by rw [hw0]; exact heap_alloc2_old _ _ _
  have g1 : w0.heap[w.heap.size + 1]? = some (.cells #[.int .i64 vb, .int .i64 k', .int .i64 n', .string s', .slice A' l'.length c'] 28 (0, 0)) := by rw [hw0]; exact heap_alloc2_new _ _ _
  have HW0 := Lib.hid hw0
  have HB0 := Lib.hid hb0
  have HG := Lib.hid (And.intro g0 g1)
  have HC1 := Lib.hid (smore_any (HA.out.on hb0) (HBv.out.on hb0) hsa hsb)
  have HC2 : Hid (∀ W, Below w0.heap.size w0 W → Calls Tryz.prog 20 #[.agg #[.int .i64 vb, .int .i64 k', .int .i64 n', .string s', .slice A' l'.length c'], .agg #[.int .i64 va, .int .i64 k, .int .i64 n, .string s, .slice A l.length c]] W fun e w' => e = .returned (.bool (moreB vb (.mk k' n' s' l') va (.mk k n s l))) ∧ Below W.heap.size W w') :=
    Lib.hid fun W h => smore_any ((HBv.out.on hb0).on h) ((HA.out.on hb0).on h) hsb hsa
  have HSM : Hid (sameS va (.mk k n s l) vb (.mk k' n' s' l') = (moreB va (.mk k n s l) vb (.mk k' n' s' l') && moreB vb (.mk k' n' s' l') va (.mk k n s l))) := Lib.hid rfl
  rw [HSM.out]
  clear hw0 hb0 g0 g1 HA HBv HSM hsa hsb
  cases h1 : moreB va (.mk k n s l) vb (.mk k' n' s' l')
  case false =>
    rw [h1] at HC1
    clear h1
    rw [Bool.false_and]
    go_enter Tryz.func22, Tryz.ntmps22
    go_upto_region 1 with fail
    rw [← HW0.out]
    go_wp2_with (first
      | refine wpList_load_row rfl 28 _ rfl w.heap.size rfl 28 _ (0, 0) _ HG.out.1 Tryz.underlying28 rfl (scSize _ _ _ _ _) ?_
      | refine wpList_load_row rfl 28 _ rfl (w.heap.size + 1) rfl 28 _ (0, 0) _ HG.out.2 Tryz.underlying28 rfl (scSize _ _ _ _ _) ?_)
    refine HC1.out.mono ?_
    rintro e w1 ⟨rfl, hb1⟩
    have HB1 := Lib.hid (below_then HB0.out hb1)
    clear hb1
    go_wp2
    go_ret
    exact ⟨rfl, HB1.out⟩
  case true =>
    rw [h1] at HC1
    clear h1
    rw [Bool.true_and]
    go_enter Tryz.func22, Tryz.ntmps22
    go_upto_region 1 with fail
    rw [← HW0.out]
    go_wp2_with (first
      | refine wpList_load_row rfl 28 _ rfl w.heap.size rfl 28 _ (0, 0) _ HG.out.1 Tryz.underlying28 rfl (scSize _ _ _ _ _) ?_
      | refine wpList_load_row rfl 28 _ rfl (w.heap.size + 1) rfl 28 _ (0, 0) _ HG.out.2 Tryz.underlying28 rfl (scSize _ _ _ _ _) ?_)
    refine HC1.out.mono ?_
    rintro e w1 ⟨rfl, hb1⟩
    have HB1 := Lib.hid (below_then HB0.out hb1)
    have HG1 := Lib.hid (And.intro (row_on HG.out.1 hb1) (row_on HG.out.2 hb1))
    have HCC := Lib.hid (HC2.out w1 hb1)
    clear hb1
    go_wp2_with (first
      | refine wpList_load_row_yes (by kernel_rfl) 28 _ rfl (w.heap.size + 1) rfl 28 _ (0, 0) _ HG1.out.2 Tryz.underlying28 rfl (scSize _ _ _ _ _) ?_
      | refine wpList_load_row_yes (by kernel_rfl) 28 _ rfl w.heap.size rfl 28 _ (0, 0) _ HG1.out.1 Tryz.underlying28 rfl (scSize _ _ _ _ _) ?_)
    refine HCC.out.mono ?_
    rintro e w2 ⟨rfl, hb2⟩
    have HB2 := Lib.hid (below_then HB1.out hb2)
    clear hb2
    go_wp2
    go_ret
    exact ⟨rfl, HB2.out⟩
set_option maxRecDepth 100000 in
set_option maxHeartbeats 4000000 in
theorem alike_any {w : World} {va vb : Int} {ta tb : Tt} {xa xb : Value} (ha : SVal w va ta xa) (hb : SVal w vb tb xb) :
    Calls Tryz.prog 11 #[xa, xb] w fun e w' => e = .returned (.bool (decide (va = vb) && sameT ta tb)) ∧ Below w.heap.size w w' := by
  have HA := Lib.hid ha
  have HBv := Lib.hid hb
  obtain ⟨A, c, rfl, _⟩ := ha
  obtain ⟨A', c', rfl, _⟩ := hb
  obtain ⟨k, n, s, l⟩ := ta
  obtain ⟨k', n', s', l'⟩ := tb
  simp only [Tt.kind, Tt.num, Tt.name, Tt.args] at HA HBv ⊢
  obtain ⟨w0, hw0⟩ : ∃ w0, w0 = (w.alloc (.cells #[.int .i64 va, .int .i64 k, .int .i64 n, .string s, .slice A l.length c] 28)).alloc (.cells #[.int .i64 vb, .int .i64 k', .int .i64 n', .string s', .slice A' l'.length c'] 28) := ⟨_, rfl⟩
  have hb0 : Below w.heap.size w w0 := by rw [hw0]; exact (below_new _ _).alloc (by simp) _
  have g0 : w0.heap[w.heap.size]? = some (.cells #[.int .i64 va, .int .i64 k, .int .i64 n, .string s, .slice A l.length c] 28 (0, 0)) := by rw [hw0]; exact heap_alloc2_old _ _ _
  have g1 : w0.heap[w.heap.size + 1]? = some (.cells #[.int .i64 vb, .int .i64 k', .int .i64 n', .string s', .slice A' l'.length c'] 28 (0, 0)) := by rw [hw0]; exact heap_alloc2_new _ _ _
  have q0 : w0.cell? ⟨w.heap.size, 0, none⟩ = some (.int .i64 va) := by rw [cell_of_row w0 _ 0 _ _ _ g0]; rfl
  have q1 : w0.cell? ⟨w.heap.size + 1, 0, none⟩ = some (.int .i64 vb) := by rw [cell_of_row w0 _ 0 _ _ _ g1]; rfl
  have HW0 := Lib.hid hw0
  have HB0 := Lib.hid hb0
  have HR := Lib.hid (And.intro (range_tail g0) (range_tail g1))
  have HC1 := Lib.hid (r8same_val (HA.out.on hb0).ty (HBv.out.on hb0).ty)
  clear hw0 hb0 g0 g1 HA HBv
  by_cases hv : va = vb
  · have qv : (va == vb) = true := by simpa using hv
    rw [decide_eq_true hv, Bool.true_and]
    clear hv
    go_enter Tryz.func11, Tryz.ntmps11
    go_upto_region 1 with fail
    rw [← HW0.out]
    go_wp2_with (first
      | refine wpList_load_mid_yes (by kernel_rfl) 25 _ rfl w.heap.size 1 rfl _ _ HR.out.1 Tryz.underlying25 rfl (tySize _ _ _ _) ?_
      | refine wpList_load_mid_yes (by kernel_rfl) 25 _ rfl (w.heap.size + 1) 1 rfl _ _ HR.out.2 Tryz.underlying25 rfl (tySize _ _ _ _) ?_)
    refine HC1.out.mono ?_
    rintro e w1 ⟨rfl, hb1⟩
    have HB1 := Lib.hid (below_then HB0.out hb1)
    clear hb1
    go_wp2
    go_ret
    exact ⟨rfl, HB1.out⟩
  · have qv : (va == vb) = false := by simpa using hv
    rw [decide_eq_false hv, Bool.false_and]
    clear hv
    go_enter Tryz.func11, Tryz.ntmps11
    go_upto_region 1 with fail
    rw [← HW0.out]
    go_wp2
    go_ret
    exact ⟨rfl, HB0.out⟩
end Go.Proofs.YtoopopjcojphaaaGreatDoor
/-
  THE LAW's EXAMPLES.
-/
namespace Go.Proofs.YtoopopjcojphaaaGreatDoor
open Go.ChangeShapes Go.WideShapes Go.ChangeAt Go.RowKit
set_option linter.unusedVariables false
def exA : Tt := .mk 2 0 ⟨#[45, 62]⟩ [vT 0, vT 1]
def exB : Tt := .mk 2 0 ⟨#[45, 62]⟩ [vT 0, vT 0]
def exC : Tt := .mk 2 0 ⟨#[45, 62]⟩ [vT 3, .mk 2 0 ⟨#[45, 62]⟩ [vT 5, vT 3]]
def intT : Tt := .mk 2 0 ⟨#[105, 110, 116]⟩ []
def exI : Tt := .mk 2 0 ⟨#[45, 62]⟩ [intT, intT]
theorem ex_show : showS (ofV exC [5]) (ofT exC [5]) = [39, 97, 32, 45, 62, 32, 95, 97, 32, 45, 62, 32, 39, 97] := by decide +kernel
theorem ex_more : moreB 2 exA 1 exB = true := by decide +kernel
theorem ex_less : moreB 1 exB 2 exA = false := by decide +kernel
theorem ex_err : instE 1 exB [intT] = 0 := by decide +kernel
theorem ex_inst : sameT (instT 1 exB [intT]) exI = true := by decide +kernel
theorem ex_a : (pre exA).length ≤ 1048576 := by decide +kernel
theorem ex_b : (pre exB).length ≤ 1048576 := by decide +kernel
theorem ex_tot : (pre (rebT (putF [intT]) exB)).length ≤ 1048576 := by decide +kernel
theorem ex_sz : ∀ u ∈ [intT], (pre u).length ≤ 1048576 := by intro u hu; rw [List.mem_singleton.1 hu]; decide +kernel
theorem ex_len : (pre (ofT exC [5])).length ≤ 1048576 := by decide +kernel
theorem of_some {x y : Value} {w : World} (h : Calls Tryz.prog 10 #[x, y] w (SGave w (ofV exC [5]) (ofT exC [5]))) : ∃ V T, Hid (showS V T = [39, 97, 32, 45, 62, 32, 95, 97, 32, 45, 62, 32, 39, 97] ∧ (pre T).length ≤ 1048576) ∧ Calls Tryz.prog 10 #[x, y] w (SGave w V T) := ⟨_, _, Lib.hid ⟨ex_show, ex_len⟩, h⟩
theorem inst_some {x y : Value} {w : World} (h : Calls Tryz.prog 17 #[x, y] w (InstPost w (instT 1 exB [intT]) 0)) : ∃ U, Hid (sameT U exI = true) ∧ Calls Tryz.prog 17 #[x, y] w (InstPost w U 0) := ⟨_, Lib.hid ex_inst, h⟩
theorem fn_open {w : World} {s : ByteArray} {a b : Tt} {y : Value} (h : Val w (.mk 2 0 s [a, b]) y) : ∃ A c, y = .agg #[.int .i64 2, .int .i64 0, .string s, .slice A 2 c] ∧ TyR.rd w (Lt w.heap.size) (.mk 2 0 s [a, b]) [.int .i64 2, .int .i64 0, .string s, .slice A 2 c] := h
theorem int_rows (w : World) : Rows TyR 4 (w.alloc (.cells #[.int .i64 2, .int .i64 0, .string ⟨#[105, 110, 116]⟩, .slice none 0 0] 25)) (Lt (w.alloc (.cells #[.int .i64 2, .int .i64 0, .string ⟨#[105, 110, 116]⟩, .slice none 0 0] 25)).heap.size) (some ⟨w.heap.size, 0, none⟩) [intT] := fun i t ht => by
  obtain ⟨hi, he⟩ := List.getElem?_eq_some_iff.1 ht
  have h0 : i = 0 := by simp at hi; exact hi
  subst h0
  simp at he; subst he
  refine ⟨w.heap.size, 0, [.int .i64 2, .int .i64 0, .string ⟨#[105, 110, 116]⟩, .slice none 0 0], rfl, by show _ < _; simp, range_row (heap_alloc_new _ _), TyR.mk (k := 2) (n := 0) (l := []) (by omega) (by simp) (by decide) (fun i t h => by simp at h)⟩
theorem ints_one (w : World) (x : Int) : IntsAt (w.alloc (.cells #[.int .i64 x] 3)) (w.alloc (.cells #[.int .i64 x] 3)).heap.size (some ⟨w.heap.size, 0, none⟩) [x] := fun k y h => by
  obtain ⟨hk, he⟩ := List.getElem?_eq_some_iff.1 h
  have h0 : k = 0 := by simp at hk; exact hk
  subst h0
  simp at he; subst he
  exact ⟨_, rfl, by simp, cell_one (heap_alloc_new _ _)⟩
set_option maxRecDepth 100000 in
set_option maxHeartbeats 16000000 in
theorem knows_any (w : World) (hT : Lx.Tabs w) (hT2 : Nu.Pow10 w) : Calls Tryz.prog 9 #[] w fun e w' => e = .returned (.bool true) ∧ Below w.heap.size w w' := by
  have HT := Lib.hid (And.intro hT hT2)
  clear hT hT2
  go_enter Tryz.func9, Tryz.ntmps9
  go_wp2_with fail
  refine (lawv_any (n := 3) (by omega)).mono ?_
  rintro e w1 ⟨x1, rfl, hv, hb⟩
  have Hx1 := Lib.hid hv
  have HS := Lib.hid hb
  clear hb hv
  go_wp2_with fail
  refine (lawv_any (n := 5) (by omega)).mono ?_
  rintro e w2 ⟨x2, rfl, hv, hb⟩
  have Hx1 := Lib.hid (Hx1.out.on hb)
  have Hx2 := Lib.hid hv
  have HS := Lib.hid (HS.out.trans (hb.mono HS.out.size))
  clear hb hv
  go_wp2_with fail
  refine (lawv_any (n := 3) (by omega)).mono ?_
  rintro e w3 ⟨x3, rfl, hv, hb⟩
  have Hx1 := Lib.hid (Hx1.out.on hb)
  have Hx2 := Lib.hid (Hx2.out.on hb)
  have Hx3 := Lib.hid hv
  have HS := Lib.hid (HS.out.trans (hb.mono HS.out.size))
  clear hb hv
  go_wp2_with fail
  refine (lawfn_any Hx2.out Hx3.out).mono ?_
  rintro e w4 ⟨y1, rfl, hv, hb⟩
  have Hx1 := Lib.hid (Hx1.out.on hb)
  have Hx2 := Lib.hid (Hx2.out.on hb)
  have Hx3 := Lib.hid (Hx3.out.on hb)
  have Hy1 := Lib.hid hv
  have HS := Lib.hid (HS.out.trans (hb.mono HS.out.size))
  clear hb hv
  go_wp2_with fail
  refine (lawfn_any Hx1.out Hy1.out).mono ?_
  rintro e w5 ⟨y2, rfl, hv, hb⟩
  have Hx1 := Lib.hid (Hx1.out.on hb)
  have Hx2 := Lib.hid (Hx2.out.on hb)
  have Hx3 := Lib.hid (Hx3.out.on hb)
  have Hy1 := Lib.hid (Hy1.out.on hb)
  have Hy2 := Lib.hid hv
  have HS := Lib.hid (HS.out.trans (hb.mono HS.out.size))
  clear hb hv
  go_wp2_with fail
  obtain ⟨wq, hwq⟩ : ∃ wq, wq = w5.alloc (.cells #[.int .i64 5] 3) := ⟨_, rfl⟩
  have hb : Below w5.heap.size w5 wq := by rw [hwq]; exact below_new _ _
  have hints : IntsAt wq wq.heap.size (some ⟨w5.heap.size, 0, none⟩) [5] := by rw [hwq]; exact ints_one w5 5
  rw [← hwq]
  have Hx1 := Lib.hid (Hx1.out.on hb)
  have Hx2 := Lib.hid (Hx2.out.on hb)
  have Hx3 := Lib.hid (Hx3.out.on hb)
  have Hy1 := Lib.hid (Hy1.out.on hb)
  have Hy2 := Lib.hid (Hy2.out.on hb)
  have HS := Lib.hid (HS.out.trans (hb.mono HS.out.size))
  clear hb hwq
  obtain ⟨Vq, Tq, HVT, hc0⟩ := of_some (sof_any (t := exC) Hy2.out (by decide) (keep := [5]) (ck := 1) (by decide) hints)
  have HC0 : Hid (Calls Tryz.prog 10 #[y2, .slice (some ⟨w5.heap.size, 0, none⟩) 1 1] wq (SGave wq Vq Tq)) := Lib.hid hc0
  clear hc0
  refine HC0.out.mono ?_
  rintro e w6 ⟨z1, rfl, hv, hb⟩
  have Hz1 := Lib.hid hv
  have Hx1 := Lib.hid (Hx1.out.on hb)
  have Hx2 := Lib.hid (Hx2.out.on hb)
  have Hx3 := Lib.hid (Hx3.out.on hb)
  have Hy1 := Lib.hid (Hy1.out.on hb)
  have Hy2 := Lib.hid (Hy2.out.on hb)
  have HS := Lib.hid (HS.out.trans (hb.mono HS.out.size))
  clear hints hb HC0
  obtain ⟨A1, c1, rfl, _⟩ := hv
  obtain ⟨kq, nq, sq, lq⟩ := Tq
  simp only [Tt.kind, Tt.num, Tt.name, Tt.args] at Hz1 ⊢
  go_wp2_with (first | refine wpList_store_row rfl 28 _ _ rfl w6.heap.size _ rfl rfl 28 #[.int .i64 0, .int .i64 0, .int .i64 0, .string ⟨#[]⟩, .slice none 0 0] (heap_alloc_new _ _) (scSize _ _ _ _ _) rfl (one5 _ _ _ _ _ _ _) ?_)
  obtain ⟨wa, hnm⟩ : ∃ wa, wa = (w6.alloc (.cells #[.int .i64 0, .int .i64 0, .int .i64 0, .string ⟨#[]⟩, .slice none 0 0] 28)).setRow w6.heap.size #[.int .i64 Vq, .int .i64 kq, .int .i64 nq, .string sq, .slice A1 lq.length c1] := ⟨_, rfl⟩
  have hb : Below w6.heap.size w6 wa := by rw [hnm]; exact below_setRow (below_new _ _) (Nat.le_refl _)
  have hrow : wa.heap[w6.heap.size]? = some (.cells #[.int .i64 Vq, .int .i64 kq, .int .i64 nq, .string sq, .slice A1 lq.length c1] 28 (0, 0)) := by rw [hnm]; exact setRow_row (heap_alloc_new _ _)
  have hzwa : wa.heap.size = w6.heap.size + 1 := by rw [hnm, size_setRow]; simp
  rw [← hnm]
  clear hnm
  have Hx1 := Lib.hid (Hx1.out.on hb)
  have Hx2 := Lib.hid (Hx2.out.on hb)
  have Hx3 := Lib.hid (Hx3.out.on hb)
  have Hy1 := Lib.hid (Hy1.out.on hb)
  have Hy2 := Lib.hid (Hy2.out.on hb)
  have Hz1 := Lib.hid (Hz1.out.on hb)
  have HS := Lib.hid (HS.out.trans (hb.mono HS.out.size))
  have HR1 := Lib.hid hrow
  clear hb hrow
  go_wp2_with fail
  refine (lawv_any (n := 0) (by omega)).mono ?_
  rintro e w7 ⟨x4, rfl, hv, hb⟩
  have Hx1 := Lib.hid (Hx1.out.on hb)
  have Hx2 := Lib.hid (Hx2.out.on hb)
  have Hx3 := Lib.hid (Hx3.out.on hb)
  have Hy1 := Lib.hid (Hy1.out.on hb)
  have Hy2 := Lib.hid (Hy2.out.on hb)
  have Hz1 := Lib.hid (Hz1.out.on hb)
  have Hx4 := Lib.hid hv
  have HS := Lib.hid (HS.out.trans (hb.mono HS.out.size))
  have HR1 := Lib.hid (row_on HR1.out hb)
  clear hb hv
  go_wp2_with fail
  refine (lawv_any (n := 1) (by omega)).mono ?_
  rintro e w8 ⟨x5, rfl, hv, hb⟩
  have Hx1 := Lib.hid (Hx1.out.on hb)
  have Hx2 := Lib.hid (Hx2.out.on hb)
  have Hx3 := Lib.hid (Hx3.out.on hb)
  have Hy1 := Lib.hid (Hy1.out.on hb)
  have Hy2 := Lib.hid (Hy2.out.on hb)
  have Hz1 := Lib.hid (Hz1.out.on hb)
  have Hx4 := Lib.hid (Hx4.out.on hb)
  have Hx5 := Lib.hid hv
  have HS := Lib.hid (HS.out.trans (hb.mono HS.out.size))
  have HR1 := Lib.hid (row_on HR1.out hb)
  clear hb hv
  go_wp2_with fail
  refine (lawfn_any Hx4.out Hx5.out).mono ?_
  rintro e w9 ⟨y, rfl, hv, hb⟩
  obtain ⟨A2, c2, rfl, hrd⟩ := fn_open hv
  have Hx1 := Lib.hid (Hx1.out.on hb)
  have Hx2 := Lib.hid (Hx2.out.on hb)
  have Hx3 := Lib.hid (Hx3.out.on hb)
  have Hy1 := Lib.hid (Hy1.out.on hb)
  have Hy2 := Lib.hid (Hy2.out.on hb)
  have Hz1 := Lib.hid (Hz1.out.on hb)
  have Hx4 := Lib.hid (Hx4.out.on hb)
  have Hx5 := Lib.hid (Hx5.out.on hb)
  have HR1 := Lib.hid (row_on HR1.out hb)
  have HS := Lib.hid (HS.out.trans (hb.mono HS.out.size))
  have Hs2 : Hid (SVal w9 2 exA (.agg #[.int .i64 2, .int .i64 2, .int .i64 0, .string ⟨#[45, 62]⟩, .slice A2 2 c2])) := Lib.hid ⟨A2, c2, rfl, hrd, by omega⟩
  clear hb hv hrd
  go_wp2_with (first | refine wpList_store_row rfl 28 _ _ rfl w9.heap.size _ rfl rfl 28 #[.int .i64 0, .int .i64 0, .int .i64 0, .string ⟨#[]⟩, .slice none 0 0] (heap_alloc_new _ _) (scSize _ _ _ _ _) rfl (one5 _ _ _ _ _ _ _) ?_)
  obtain ⟨wb, hnm⟩ : ∃ wb, wb = (w9.alloc (.cells #[.int .i64 0, .int .i64 0, .int .i64 0, .string ⟨#[]⟩, .slice none 0 0] 28)).setRow w9.heap.size #[.int .i64 2, .int .i64 2, .int .i64 0, .string ⟨#[45, 62]⟩, .slice A2 2 c2] := ⟨_, rfl⟩
  have hb : Below w9.heap.size w9 wb := by rw [hnm]; exact below_setRow (below_new _ _) (Nat.le_refl _)
  have hrow : wb.heap[w9.heap.size]? = some (.cells #[.int .i64 2, .int .i64 2, .int .i64 0, .string ⟨#[45, 62]⟩, .slice A2 2 c2] 28 (0, 0)) := by rw [hnm]; exact setRow_row (heap_alloc_new _ _)
  have hzwb : wb.heap.size = w9.heap.size + 1 := by rw [hnm, size_setRow]; simp
  rw [← hnm]
  clear hnm
  have Hx1 := Lib.hid (Hx1.out.on hb)
  have Hx2 := Lib.hid (Hx2.out.on hb)
  have Hx3 := Lib.hid (Hx3.out.on hb)
  have Hy1 := Lib.hid (Hy1.out.on hb)
  have Hy2 := Lib.hid (Hy2.out.on hb)
  have Hz1 := Lib.hid (Hz1.out.on hb)
  have Hx4 := Lib.hid (Hx4.out.on hb)
  have Hx5 := Lib.hid (Hx5.out.on hb)
  have Hs2 := Lib.hid (Hs2.out.on hb)
  have HR1 := Lib.hid (row_on HR1.out hb)
  have HS := Lib.hid (HS.out.trans (hb.mono HS.out.size))
  have HR2 := Lib.hid hrow
  clear hb hrow
  go_wp2_with fail
  refine (lawv_any (n := 0) (by omega)).mono ?_
  rintro e w10 ⟨x6, rfl, hv, hb⟩
  have Hx1 := Lib.hid (Hx1.out.on hb)
  have Hx2 := Lib.hid (Hx2.out.on hb)
  have Hx3 := Lib.hid (Hx3.out.on hb)
  have Hy1 := Lib.hid (Hy1.out.on hb)
  have Hy2 := Lib.hid (Hy2.out.on hb)
  have Hz1 := Lib.hid (Hz1.out.on hb)
  have Hx4 := Lib.hid (Hx4.out.on hb)
  have Hx5 := Lib.hid (Hx5.out.on hb)
  have Hs2 := Lib.hid (Hs2.out.on hb)
  have Hx6 := Lib.hid hv
  have HS := Lib.hid (HS.out.trans (hb.mono HS.out.size))
  have HR1 := Lib.hid (row_on HR1.out hb)
  have HR2 := Lib.hid (row_on HR2.out hb)
  clear hb hv
  go_wp2_with fail
  refine (lawv_any (n := 0) (by omega)).mono ?_
  rintro e w11 ⟨x7, rfl, hv, hb⟩
  have Hx1 := Lib.hid (Hx1.out.on hb)
  have Hx2 := Lib.hid (Hx2.out.on hb)
  have Hx3 := Lib.hid (Hx3.out.on hb)
  have Hy1 := Lib.hid (Hy1.out.on hb)
  have Hy2 := Lib.hid (Hy2.out.on hb)
  have Hz1 := Lib.hid (Hz1.out.on hb)
  have Hx4 := Lib.hid (Hx4.out.on hb)
  have Hx5 := Lib.hid (Hx5.out.on hb)
  have Hs2 := Lib.hid (Hs2.out.on hb)
  have Hx6 := Lib.hid (Hx6.out.on hb)
  have Hx7 := Lib.hid hv
  have HS := Lib.hid (HS.out.trans (hb.mono HS.out.size))
  have HR1 := Lib.hid (row_on HR1.out hb)
  have HR2 := Lib.hid (row_on HR2.out hb)
  clear hb hv
  go_wp2_with fail
  refine (lawfn_any Hx6.out Hx7.out).mono ?_
  rintro e w12 ⟨y, rfl, hv, hb⟩
  obtain ⟨A3, c3, rfl, hrd⟩ := fn_open hv
  have Hx1 := Lib.hid (Hx1.out.on hb)
  have Hx2 := Lib.hid (Hx2.out.on hb)
  have Hx3 := Lib.hid (Hx3.out.on hb)
  have Hy1 := Lib.hid (Hy1.out.on hb)
  have Hy2 := Lib.hid (Hy2.out.on hb)
  have Hz1 := Lib.hid (Hz1.out.on hb)
  have Hx4 := Lib.hid (Hx4.out.on hb)
  have Hx5 := Lib.hid (Hx5.out.on hb)
  have Hs2 := Lib.hid (Hs2.out.on hb)
  have Hx6 := Lib.hid (Hx6.out.on hb)
  have Hx7 := Lib.hid (Hx7.out.on hb)
  have HR1 := Lib.hid (row_on HR1.out hb)
  have HR2 := Lib.hid (row_on HR2.out hb)
  have HS := Lib.hid (HS.out.trans (hb.mono HS.out.size))
  have Hs3 : Hid (SVal w12 1 exB (.agg #[.int .i64 1, .int .i64 2, .int .i64 0, .string ⟨#[45, 62]⟩, .slice A3 2 c3])) := Lib.hid ⟨A3, c3, rfl, hrd, by omega⟩
  clear hb hv hrd
  go_wp2_with (first | refine wpList_store_row rfl 28 _ _ rfl w12.heap.size _ rfl rfl 28 #[.int .i64 0, .int .i64 0, .int .i64 0, .string ⟨#[]⟩, .slice none 0 0] (heap_alloc_new _ _) (scSize _ _ _ _ _) rfl (one5 _ _ _ _ _ _ _) ?_ | refine wpList_load_row rfl 28 _ rfl w12.heap.size rfl 28 _ (0, 0) _ (setRow_row (heap_alloc_new _ _)) Tryz.underlying28 rfl (scSize _ _ _ _ _) ?_)
  obtain ⟨wc, hnm⟩ : ∃ wc, wc = (w12.alloc (.cells #[.int .i64 0, .int .i64 0, .int .i64 0, .string ⟨#[]⟩, .slice none 0 0] 28)).setRow w12.heap.size #[.int .i64 1, .int .i64 2, .int .i64 0, .string ⟨#[45, 62]⟩, .slice A3 2 c3] := ⟨_, rfl⟩
  have hb : Below w12.heap.size w12 wc := by rw [hnm]; exact below_setRow (below_new _ _) (Nat.le_refl _)
  have hrow : wc.heap[w12.heap.size]? = some (.cells #[.int .i64 1, .int .i64 2, .int .i64 0, .string ⟨#[45, 62]⟩, .slice A3 2 c3] 28 (0, 0)) := by rw [hnm]; exact setRow_row (heap_alloc_new _ _)
  have hzwc : wc.heap.size = w12.heap.size + 1 := by rw [hnm, size_setRow]; simp
  rw [← hnm]
  clear hnm
  have Hx1 := Lib.hid (Hx1.out.on hb)
  have Hx2 := Lib.hid (Hx2.out.on hb)
  have Hx3 := Lib.hid (Hx3.out.on hb)
  have Hy1 := Lib.hid (Hy1.out.on hb)
  have Hy2 := Lib.hid (Hy2.out.on hb)
  have Hz1 := Lib.hid (Hz1.out.on hb)
  have Hx4 := Lib.hid (Hx4.out.on hb)
  have Hx5 := Lib.hid (Hx5.out.on hb)
  have Hs2 := Lib.hid (Hs2.out.on hb)
  have Hx6 := Lib.hid (Hx6.out.on hb)
  have Hx7 := Lib.hid (Hx7.out.on hb)
  have Hs3 := Lib.hid (Hs3.out.on hb)
  have HR1 := Lib.hid (row_on HR1.out hb)
  have HR2 := Lib.hid (row_on HR2.out hb)
  have HS := Lib.hid (HS.out.trans (hb.mono HS.out.size))
  have HR3 := Lib.hid hrow
  clear hb hrow
  clear Hx1 Hx2 Hx3 Hy1 Hy2 Hx4 Hx5 Hx6 Hx7
  obtain ⟨wd, hwd⟩ : ∃ wd, wd = wc.alloc (.cells #[.int .i64 2, .int .i64 0, .string ⟨#[105, 110, 116]⟩, .slice none 0 0] 25) := ⟨_, rfl⟩
  have hb : Below wc.heap.size wc wd := by rw [hwd]; exact below_new _ _
  have hrows : Rows TyR 4 wd (Lt wd.heap.size) (some ⟨wc.heap.size, 0, none⟩) [intT] := by rw [hwd]; exact int_rows wc
  rw [← hwd]
  have Hz1 := Lib.hid (Hz1.out.on hb)
  have Hs2 := Lib.hid (Hs2.out.on hb)
  have Hs3 := Lib.hid (Hs3.out.on hb)
  have HR1 := Lib.hid (row_on HR1.out hb)
  have HR2 := Lib.hid (row_on HR2.out hb)
  have HR3 := Lib.hid (row_on HR3.out hb)
  have HS := Lib.hid (HS.out.trans (hb.mono HS.out.size))
  clear hb hwd
  have hcc := sinst_any (ls := [intT]) (cl := 1) Hs3.out ex_b (by decide) ex_sz hrows (fun _ _ => ex_tot)
  rw [ex_err] at hcc
  obtain ⟨U, HU, hc4⟩ := inst_some hcc
  have HC4 : Hid (Calls Tryz.prog 17 #[.agg #[.int .i64 1, .int .i64 2, .int .i64 0, .string ⟨#[45, 62]⟩, .slice A3 2 c3], .slice (some ⟨wc.heap.size, 0, none⟩) 1 1] wd (InstPost wd U 0)) := Lib.hid hc4
  clear hcc hc4
  clear hrows
  rw [← hzwc]
  refine HC4.out.mono ?_
  rintro e w13 ⟨x, rfl, hv, hb⟩
  have Hz1 := Lib.hid (Hz1.out.on hb)
  have Hs2 := Lib.hid (Hs2.out.on hb)
  have Hs3 := Lib.hid (Hs3.out.on hb)
  have HR1 := Lib.hid (row_on HR1.out hb)
  have HR2 := Lib.hid (row_on HR2.out hb)
  have HR3 := Lib.hid (row_on HR3.out hb)
  have HS := Lib.hid (HS.out.trans (hb.mono HS.out.size))
  have Hu := Lib.hid hv
  obtain ⟨A4, c4, rfl, _⟩ := hv
  clear hb HC4
  obtain ⟨ku, nu, su, lu⟩ := U
  simp only [Tt.kind, Tt.num, Tt.name, Tt.args] at Hu ⊢
  go_wp2_with (first | refine wpList_store_row rfl 25 _ _ rfl w13.heap.size _ rfl rfl 25 #[.int .i64 0, .int .i64 0, .string ⟨#[]⟩, .slice none 0 0] (heap_alloc_new _ _) (tySizeA _ _ _ _) rfl (one4 _ _ _ _ _ _) ?_)
  obtain ⟨wr, hnm⟩ : ∃ wr, wr = (w13.alloc (.cells #[.int .i64 0, .int .i64 0, .string ⟨#[]⟩, .slice none 0 0] 25)).setRow w13.heap.size #[.int .i64 ku, .int .i64 nu, .string su, .slice A4 lu.length c4] := ⟨_, rfl⟩
  have hb : Below w13.heap.size w13 wr := by rw [hnm]; exact below_setRow (below_new _ _) (Nat.le_refl _)
  have hrow : wr.heap[w13.heap.size]? = some (.cells #[.int .i64 ku, .int .i64 nu, .string su, .slice A4 lu.length c4] 25 (0, 0)) := by rw [hnm]; exact setRow_row (heap_alloc_new _ _)
  have hzwr : wr.heap.size = w13.heap.size + 1 := by rw [hnm, size_setRow]; simp
  rw [← hnm]
  clear hnm
  have Hz1 := Lib.hid (Hz1.out.on hb)
  have Hs2 := Lib.hid (Hs2.out.on hb)
  have Hs3 := Lib.hid (Hs3.out.on hb)
  have Hu := Lib.hid (Hu.out.on hb)
  have HR1 := Lib.hid (row_on HR1.out hb)
  have HR2 := Lib.hid (row_on HR2.out hb)
  have HR3 := Lib.hid (row_on HR3.out hb)
  have HS := Lib.hid (HS.out.trans (hb.mono HS.out.size))
  have HR4 := Lib.hid hrow
  clear hb hrow
  have HS0 := HS
  have HT := Lib.hid (And.intro (HT.out.1.on HS.out) (HT.out.2.on HS.out))
  have HR1q : Hid (∀ W', Below wr.heap.size wr W' → W'.heap[w6.heap.size]? = some (.cells (List.toArray [.int .i64 Vq, .int .i64 kq, .int .i64 nq, .string sq, .slice A1 lq.length c1]) 28 (0, 0))) := Lib.hid fun W' h => row_on HR1.out h
  have HR2q : Hid (∀ W', Below wr.heap.size wr W' → W'.heap[w9.heap.size]? = some (.cells (List.toArray [.int .i64 2, .int .i64 2, .int .i64 0, .string ⟨#[45, 62]⟩, .slice A2 2 c2]) 28 (0, 0))) := Lib.hid fun W' h => row_on HR2.out h
  have HR3q : Hid (∀ W', Below wr.heap.size wr W' → W'.heap[w12.heap.size]? = some (.cells (List.toArray [.int .i64 1, .int .i64 2, .int .i64 0, .string ⟨#[45, 62]⟩, .slice A3 2 c3]) 28 (0, 0))) := Lib.hid fun W' h => row_on HR3.out h
  have HR4q : Hid (∀ W', Below wr.heap.size wr W' → W'.heap[w13.heap.size]? = some (.cells (List.toArray [.int .i64 ku, .int .i64 nu, .string su, .slice A4 lu.length c4]) 25 (0, 0))) := Lib.hid fun W' h => row_on HR4.out h
  have HQ1 : Hid (∀ W', Below wr.heap.size wr W' → Calls Tryz.prog 15 #[.agg #[.int .i64 Vq, .int .i64 kq, .int .i64 nq, .string sq, .slice A1 lq.length c1]] W' fun e w' => e = .returned (.string ⟨#[39, 97, 32, 45, 62, 32, 95, 97, 32, 45, 62, 32, 39, 97]⟩) ∧ Below W'.heap.size W' w') := Lib.hid fun W' h => by
    have := sshow_any (Hz1.out.on h) HVT.out.2 (HT.out.1.on h) (HT.out.2.on h)
    rwa [HVT.out.1] at this
  have HQ2 : Hid (∀ W', Below wr.heap.size wr W' → Calls Tryz.prog 20 #[.agg #[.int .i64 2, .int .i64 2, .int .i64 0, .string ⟨#[45, 62]⟩, .slice A2 2 c2], .agg #[.int .i64 1, .int .i64 2, .int .i64 0, .string ⟨#[45, 62]⟩, .slice A3 2 c3]] W' fun e w' => e = .returned (.bool true) ∧ Below W'.heap.size W' w') := Lib.hid fun W' h => by
    have := smore_any (Hs2.out.on h) (Hs3.out.on h) ex_a ex_b
    rwa [ex_more] at this
  have HQ3 : Hid (∀ W', Below wr.heap.size wr W' → Calls Tryz.prog 20 #[.agg #[.int .i64 1, .int .i64 2, .int .i64 0, .string ⟨#[45, 62]⟩, .slice A3 2 c3], .agg #[.int .i64 2, .int .i64 2, .int .i64 0, .string ⟨#[45, 62]⟩, .slice A2 2 c2]] W' fun e w' => e = .returned (.bool false) ∧ Below W'.heap.size W' w') := Lib.hid fun W' h => by
    have := smore_any (Hs3.out.on h) (Hs2.out.on h) ex_b ex_a
    rwa [ex_less] at this
  have HQ4 : Hid (∀ W' y, Below wr.heap.size wr W' → Val W' exI y → Calls Tryz.prog 19 #[.agg #[.int .i64 ku, .int .i64 nu, .string su, .slice A4 lu.length c4], y] W' fun e w' => e = .returned (.bool true) ∧ Below W'.heap.size W' w') := Lib.hid fun W' y h hy => by
    have := r8same_val (Hu.out.on h) hy
    rwa [HU.out] at this
  have hcI : ∀ W : World, Val W intT (.agg #[.int .i64 2, .int .i64 0, .string ⟨#[105, 110, 116]⟩, .slice none 0 0]) := fun W => val_leaf W 2 0 _ (by omega) (by decide)
  have HCI := Lib.hid hcI
  clear HR1 HR2 HR3 HR4 Hz1 Hs2 Hs3 Hu HU HT hcI
  go_wp2
  refine wp_region_K (fun w' => Below wr.heap.size wr w') (fun j => true) (by kernel_rfl) ?_
  have HS := Lib.hid (below_drew1 (Below.refl wr.heap.size wr))
  refine wpK_take (v := .agg #[.int .i64 Vq, .int .i64 kq, .int .i64 nq, .string sq, .slice A1 lq.length c1]) (a' := ?_) 0 rfl (by kernel_rfl) (by kernel_rfl) (by kernel_rfl) (by kernel_rfl) (by kernel_rfl) (fun _ _ _ h => h) HS.out ?_ ?_ ?_
  rotate_left 1
  · exact yieldsIf_load_mid (by kernel_rfl) 28 (.tmp 1) rfl (w6.heap.size) 0 (by go_simp) _ _ (fun wS hS => range_row (HR1q.out _ hS)) Tryz.underlying28 rfl (scSize _ _ _ _ _)
  · go_simp; with_reducible rfl
  refine wpK_one 1 rfl (by kernel_rfl) (fun K hK => ?_)
  have HKK := Lib.hid hK
  clear hK
  go_wp2_with fail
  refine (HQ1.out _ HS.out).mono ?_
  rintro e w' ⟨rfl, hb⟩
  have HS := Lib.hid (HS.out.trans (hb.mono HS.out.size))
  clear hb
  go_wp2
  refine HKK.out _ _ (fun _ _ => HS.out) ?_
  refine wpK_take0 (v := ?_) (a' := ?_) 2 rfl (by kernel_rfl) (by kernel_rfl) (by kernel_rfl) (by kernel_rfl) (fun _ _ _ h => h) ?_ ?_ ?_
  rotate_left 2
  · refine .inl ⟨by kernel_rfl, ?_⟩; intro wS hS; clear hS; go_simp; with_reducible rfl
  · go_simp; with_reducible rfl
  refine wpK_take0 (v := ?_) (a' := ?_) 3 rfl (by kernel_rfl) (by kernel_rfl) (by kernel_rfl) (by kernel_rfl) (fun _ _ _ h => h) ?_ ?_ ?_
  rotate_left 2
  · refine .inl ⟨by kernel_rfl, ?_⟩; intro wS hS; clear hS; go_simp; with_reducible rfl
  · go_simp; with_reducible rfl
  refine wpK_take (v := .agg #[.int .i64 2, .int .i64 2, .int .i64 0, .string ⟨#[45, 62]⟩, .slice A2 2 c2]) (a' := ?_) 4 rfl (by kernel_rfl) (by kernel_rfl) (by kernel_rfl) (by kernel_rfl) (by kernel_rfl) (fun _ _ _ h => h) HS.out ?_ ?_ ?_
  rotate_left 1
  · exact yieldsIf_load_mid (by kernel_rfl) 28 (.tmp 2) rfl (w9.heap.size) 0 (by go_simp) _ _ (fun wS hS => range_row (HR2q.out _ hS)) Tryz.underlying28 rfl (scSize _ _ _ _ _)
  · go_simp; with_reducible rfl
  refine wpK_take (v := .agg #[.int .i64 1, .int .i64 2, .int .i64 0, .string ⟨#[45, 62]⟩, .slice A3 2 c3]) (a' := ?_) 5 rfl (by kernel_rfl) (by kernel_rfl) (by kernel_rfl) (by kernel_rfl) (by kernel_rfl) (fun _ _ _ h => h) HS.out ?_ ?_ ?_
  rotate_left 1
  · exact yieldsIf_load_mid (by kernel_rfl) 28 (.tmp 3) rfl (w12.heap.size) 0 (by go_simp) _ _ (fun wS hS => range_row (HR3q.out _ hS)) Tryz.underlying28 rfl (scSize _ _ _ _ _)
  · go_simp; with_reducible rfl
  refine wpK_one 6 rfl (by kernel_rfl) (fun K hK => ?_)
  have HKK := Lib.hid hK
  clear hK
  go_wp2_with fail
  refine (HQ2.out _ HS.out).mono ?_
  rintro e w' ⟨rfl, hb⟩
  have HS := Lib.hid (HS.out.trans (hb.mono HS.out.size))
  clear hb
  go_wp2
  refine HKK.out _ _ (fun _ _ => HS.out) ?_
  refine wpK_take0 (v := ?_) (a' := ?_) 7 rfl (by kernel_rfl) (by kernel_rfl) (by kernel_rfl) (by kernel_rfl) (fun _ _ _ h => h) ?_ ?_ ?_
  rotate_left 2
  · refine .inl ⟨by kernel_rfl, ?_⟩; intro wS hS; clear hS; go_simp; with_reducible rfl
  · go_simp; with_reducible rfl
  refine wpK_take0 (v := ?_) (a' := ?_) 8 rfl (by kernel_rfl) (by kernel_rfl) (by kernel_rfl) (by kernel_rfl) (fun _ _ _ h => h) ?_ ?_ ?_
  rotate_left 2
  · refine .inl ⟨by kernel_rfl, ?_⟩; intro wS hS; clear hS; go_simp; with_reducible rfl
  · go_simp; with_reducible rfl
  refine wpK_take (v := .agg #[.int .i64 1, .int .i64 2, .int .i64 0, .string ⟨#[45, 62]⟩, .slice A3 2 c3]) (a' := ?_) 9 rfl (by kernel_rfl) (by kernel_rfl) (by kernel_rfl) (by kernel_rfl) (by kernel_rfl) (fun _ _ _ h => h) HS.out ?_ ?_ ?_
  rotate_left 1
  · exact yieldsIf_load_mid (by kernel_rfl) 28 (.tmp 3) rfl (w12.heap.size) 0 (by go_simp) _ _ (fun wS hS => range_row (HR3q.out _ hS)) Tryz.underlying28 rfl (scSize _ _ _ _ _)
  · go_simp; with_reducible rfl
  refine wpK_take (v := .agg #[.int .i64 2, .int .i64 2, .int .i64 0, .string ⟨#[45, 62]⟩, .slice A2 2 c2]) (a' := ?_) 10 rfl (by kernel_rfl) (by kernel_rfl) (by kernel_rfl) (by kernel_rfl) (by kernel_rfl) (fun _ _ _ h => h) HS.out ?_ ?_ ?_
  rotate_left 1
  · exact yieldsIf_load_mid (by kernel_rfl) 28 (.tmp 2) rfl (w9.heap.size) 0 (by go_simp) _ _ (fun wS hS => range_row (HR2q.out _ hS)) Tryz.underlying28 rfl (scSize _ _ _ _ _)
  · go_simp; with_reducible rfl
  refine wpK_one 11 rfl (by kernel_rfl) (fun K hK => ?_)
  have HKK := Lib.hid hK
  clear hK
  go_wp2_with fail
  refine (HQ3.out _ HS.out).mono ?_
  rintro e w' ⟨rfl, hb⟩
  have HS := Lib.hid (HS.out.trans (hb.mono HS.out.size))
  clear hb
  go_wp2
  refine HKK.out _ _ (fun _ _ => HS.out) ?_
  refine wpK_take0 (v := ?_) (a' := ?_) 12 rfl (by kernel_rfl) (by kernel_rfl) (by kernel_rfl) (by kernel_rfl) (fun _ _ _ h => h) ?_ ?_ ?_
  rotate_left 2
  · refine .inl ⟨by kernel_rfl, ?_⟩; intro wS hS; clear hS; go_simp; with_reducible rfl
  · go_simp; with_reducible rfl
  refine wpK_take0 (v := ?_) (a' := ?_) 13 rfl (by kernel_rfl) (by kernel_rfl) (by kernel_rfl) (by kernel_rfl) (fun _ _ _ h => h) ?_ ?_ ?_
  rotate_left 2
  · refine .inl ⟨by kernel_rfl, ?_⟩; intro wS hS; clear hS; go_simp; with_reducible rfl
  · go_simp; with_reducible rfl
  refine wpK_take0 (v := ?_) (a' := ?_) 14 rfl (by kernel_rfl) (by kernel_rfl) (by kernel_rfl) (by kernel_rfl) (fun _ _ _ h => h) ?_ ?_ ?_
  rotate_left 2
  · refine .inl ⟨by kernel_rfl, ?_⟩; intro wS hS; clear hS; go_simp; with_reducible rfl
  · go_simp; with_reducible rfl
  refine wpK_take0 (v := ?_) (a' := ?_) 15 rfl (by kernel_rfl) (by kernel_rfl) (by kernel_rfl) (by kernel_rfl) (fun _ _ _ h => h) ?_ ?_ ?_
  rotate_left 2
  · refine .inl ⟨by kernel_rfl, ?_⟩; intro wS hS; clear hS; go_simp; with_reducible rfl
  · go_simp; with_reducible rfl
  refine wpK_take0 (v := ?_) (a' := ?_) 16 rfl (by kernel_rfl) (by kernel_rfl) (by kernel_rfl) (by kernel_rfl) (fun _ _ _ h => h) ?_ ?_ ?_
  rotate_left 2
  · refine .inl ⟨by kernel_rfl, ?_⟩; intro wS hS; clear hS; go_simp; with_reducible rfl
  · go_simp; with_reducible rfl
  refine wpK_take0 (v := ?_) (a' := ?_) 17 rfl (by kernel_rfl) (by kernel_rfl) (by kernel_rfl) (by kernel_rfl) (fun _ _ _ h => h) ?_ ?_ ?_
  rotate_left 2
  · refine .inl ⟨by kernel_rfl, ?_⟩; intro wS hS; clear hS; go_simp; with_reducible rfl
  · go_simp; with_reducible rfl
  refine wpK_take0 (v := ?_) (a' := ?_) 18 rfl (by kernel_rfl) (by kernel_rfl) (by kernel_rfl) (by kernel_rfl) (fun _ _ _ h => h) ?_ ?_ ?_
  rotate_left 2
  · refine .inl ⟨by kernel_rfl, ?_⟩; intro wS hS; clear hS; go_simp; with_reducible rfl
  · go_simp; with_reducible rfl
  refine wpK_take (v := .agg #[.int .i64 ku, .int .i64 nu, .string su, .slice A4 lu.length c4]) (a' := ?_) 19 rfl (by kernel_rfl) (by kernel_rfl) (by kernel_rfl) (by kernel_rfl) (by kernel_rfl) (fun _ _ _ h => h) HS.out ?_ ?_ ?_
  rotate_left 1
  · exact yieldsIf_load_mid (by kernel_rfl) 25 (.tmp 4) rfl (w13.heap.size) 0 (by go_simp) _ _ (fun wS hS => range_row (HR4q.out _ hS)) Tryz.underlying25 rfl (tySize _ _ _ _)
  · go_simp; with_reducible rfl
  refine wpK_take0 (v := ?_) (a' := ?_) 20 rfl (by kernel_rfl) (by kernel_rfl) (by kernel_rfl) (by kernel_rfl) (fun _ _ _ h => h) ?_ ?_ ?_
  rotate_left 2
  · refine .inl ⟨by kernel_rfl, ?_⟩; intro wS hS; clear hS; go_simp; with_reducible rfl
  · go_simp; with_reducible rfl
  refine wpK_take0 (v := ?_) (a' := ?_) 21 rfl (by kernel_rfl) (by kernel_rfl) (by kernel_rfl) (by kernel_rfl) (fun _ _ _ h => h) ?_ ?_ ?_
  rotate_left 2
  · refine .inl ⟨by kernel_rfl, ?_⟩; intro wS hS; clear hS; go_simp; with_reducible rfl
  · go_simp; with_reducible rfl
  refine wpK_one 22 rfl (by kernel_rfl) (fun K hK => ?_)
  have HKK := Lib.hid hK
  clear hK
  go_wp2_with fail
  refine (lawfn_any (HCI.out _) (HCI.out _)).mono ?_
  rintro e w' ⟨yi, rfl, hv, hb⟩
  have HS := Lib.hid (HS.out.trans (hb.mono HS.out.size))
  have HYI := Lib.hid hv
  clear hb hv
  go_wp2
  refine HKK.out _ _ (fun _ _ => HS.out) ?_
  refine wpK_one 23 rfl (by kernel_rfl) (fun K hK => ?_)
  have HKK := Lib.hid hK
  clear hK
  go_wp2_with fail
  refine (HQ4.out _ _ HS.out HYI.out).mono ?_
  rintro e w'' ⟨rfl, hb⟩
  have HS := Lib.hid (HS.out.trans (hb.mono HS.out.size))
  clear hb
  go_wp2
  refine HKK.out _ _ (fun _ _ => HS.out) ?_
  refine wpK_take0 (v := ?_) (a' := ?_) 24 rfl (by kernel_rfl) (by kernel_rfl) (by kernel_rfl) (by kernel_rfl) (fun _ _ _ h => h) ?_ ?_ ?_
  rotate_left 2
  · refine .inl ⟨by kernel_rfl, ?_⟩; intro wS hS; clear hS; go_simp; with_reducible rfl
  · go_simp; with_reducible rfl
  refine wpK_take0 (v := ?_) (a' := ?_) 25 rfl (by kernel_rfl) (by kernel_rfl) (by kernel_rfl) (by kernel_rfl) (fun _ _ _ h => h) ?_ ?_ ?_
  rotate_left 2
  · refine .inl ⟨by kernel_rfl, ?_⟩; intro wS hS; clear hS; go_simp; with_reducible rfl
  · go_simp; with_reducible rfl
  refine wpK_end (by kernel_rfl) ?_ _
  go_wp2
  go_ret
  exact ⟨rfl, below_then HS0.out HS.out⟩
end Go.Proofs.YtoopopjcojphaaaGreatDoor
/-
  AN ARGUMENT THAT IS A SCHEME; the listed tables.
-/
namespace Go.Proofs.YtoopopjcojphaaaGreatDoor
open Go.ChangeShapes Go.WideShapes Go.ChangeAt Go.RowKit Go.Deep
set_option linter.unusedVariables false
section
variable {H : Type} {enc : TypeId × Value → H} {w : World}
set_option maxRecDepth 100000 in
theorem sch_arg {v : Value} {d : DataW H} {p : List MemPlace} (o : Value.okWide Tryz.prog w .any 0 28 v) (r : DataW.Trod enc Tryz.prog w 0 (fun _ => true) true 28 v d p) (hm : Rows.uptoBulk d ≤ 1048576) : ∃ n t, SVal w n t v ∧ bulk t ≤ Rows.uptoBulk d := by
  obtain ⟨cs, rfl, _⟩ := okWide_struct Tryz.underlying28 o
  obtain ⟨fuel, hr⟩ := r
  have hr' : DataW.trod enc Tryz.prog w 0 (fun _ => true) true fuel 28 cs.toList = some (d, p) := hr
  obtain ⟨ys, n', _, hyy, hcl, hyl, hf⟩ := DataW.trod_struct Tryz.underlying28 hr'
  have hC : Tryz.prog.cellsOf 28 = 5 := by kernel_rfl
  rw [hC] at hcl
  obtain ⟨y0, y1, rfl⟩ : ∃ a b, ys = [a, b] := by
    match ys, hyl with
    | [a, b], _ => exact ⟨a, b, rfl⟩
  obtain ⟨c0, c1, c2, c3, c4, hcs⟩ : ∃ a b c d e, cs.toList = [a, b, c, d, e] := by
    match cs.toList, hcl with
    | [a, b, c, d, e], _ => exact ⟨a, b, c, d, e, rfl⟩
  have k1 : Tryz.prog.cellsOf 3 = 1 := by kernel_rfl
  have k2 : Tryz.prog.cellsOf 25 = 4 := by kernel_rfl
  rw [hcs] at hf
  have g0 : DataW.trod enc Tryz.prog w 0 (fun _ => true) true n' 3 (([c0, c1, c2, c3, c4].drop 0).take (Tryz.prog.cellsOf 3)) = some y0 := hf 0 _ rfl
  have g1 : DataW.trod enc Tryz.prog w 0 (fun _ => true) true n' 25 (([c0, c1, c2, c3, c4].drop 1).take (Tryz.prog.cellsOf 25)) = some y1 := hf 1 _ rfl
  rw [k1] at g0; rw [k2] at g1
  simp only [List.drop_zero, List.drop_succ_cons, List.take_succ_cons, List.take_zero] at g0 g1
  obtain ⟨x0, e0, f0, w0⟩ := DataW.trod_int Tryz.underlying3 g0
  simp only [List.cons.injEq, and_true] at e0
  subst e0
  have hyb : Rows.uptoBulk y1.1 ≤ Rows.uptoBulk d := by
    have : d = DataW.agg (List.map (fun x => x.1) [y0, y1]) := congrArg Prod.fst hyy
    rw [this]
    simp [Rows.uptoBulk, Rows.uptoBulkAll]
    omega
  obtain ⟨t, ht, hb⟩ := ty_open 1048576 n' _ y1 g1 (by omega) (Nat.le_refl _)
  obtain ⟨A, c, hcs2, _⟩ := TyR.open_ ht
  refine ⟨x0, t, ⟨A, c, ?_, by rw [← hcs2]; exact ht, of_wf w0⟩, by omega⟩
  rw [← Array.toList_inj.1 (show cs.toList = (#[.int .i64 x0, .int .i64 t.kind, .int .i64 t.num, .string t.name, .slice A t.args.length c] : Array Value).toList by rw [hcs, hcs2])]
end
theorem gT : Tryz.prog.globalNamed "internal/strconv.uint64pow10" = some 0 := by kernel_rfl
theorem gTT : (Tryz.prog.globals[0]?).map (·.type) = some 177 := by kernel_rfl
theorem gKK : (Tryz.prog.globals[4]?).map (·.type) = some 201 := by kernel_rfl
theorem gSS : (Tryz.prog.globals[1]?).map (·.type) = some 197 := by kernel_rfl
end Go.Proofs.YtoopopjcojphaaaGreatDoor
