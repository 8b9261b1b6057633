import Derived.Test.YtoopopjcojphaaaGreatDoorQS
/-
  SchemeInst: THE WALK.
-/
namespace Go.Proofs.YtoopopjcojphaaaGreatDoor
open Go.ChangeShapes Go.WideShapes Go.ChangeAt Go.RowKit
set_option linter.unusedVariables false
mutual
theorem reb_most {f : Int → Option Tt} (hf : ∀ n x, f n = some x → (pre x).length ≤ 256) : ∀ t : Tt, (pre (rebT f t)).length ≤ 256 * (pre t).length
  | .mk k n s l => by
    have ih := reb_mostL hf l
    by_cases hk : k = 1
    · cases hx : f n with
      | some u =>
        subst hk
        rw [reb_var hx]
        have := hf n u hx
        simp only [pre, List.length_cons]; omega
      | none => rw [reb_none hx]; simp only [pre, List.length_cons]; omega
    · rw [reb_con hk]; simp only [pre, List.length_cons]; omega
theorem reb_mostL {f : Int → Option Tt} (hf : ∀ n x, f n = some x → (pre x).length ≤ 256) : ∀ l : List Tt, (preL (l.map (rebT f))).length ≤ 256 * (preL l).length
  | [] => Nat.zero_le _
  | t :: r => by
    have h1 := reb_most hf t
    have h2 := reb_mostL hf r
    simp only [List.map_cons, preL, List.length_append]; omega
end
theorem inst_tot {v : Int} {t : Tt} {ls : List Tt} (h : rightS v t = true) (hl : ls.all rightT = true) : (pre (rebT (putF ls) t)).length ≤ 1048576 := by
  have h1 := (rightS_iff.1 h).2.2.1
  have := reb_most (f := putF ls) (fun n x hx => by
    unfold putF at hx
    split at hx
    · cases hx
      have := List.all_eq_true.1 hl _ (List.getElem_mem (by omega : n.toNat < ls.length))
      exact (right_iff.1 this).1
    · cases hx) t
  omega
set_option maxRecDepth 100000 in
set_option maxHeartbeats 16000000 in
theorem inst_run {w : World} {v : Int} {t : Tt} {x : Value} (h : SVal w v t x) (hsz : (pre t).length ≤ 1048576) {ls : List Tt} {Al : Option Addr} {cl : Nat} (hls0 : ls.length ≤ 1048576) (hsm : ∀ u ∈ ls, (pre u).length ≤ 1048576) (hR : Rows TyR 4 w (Lt w.heap.size) Al ls) (hT : Lx.Tabs w) (hT2 : Nu.Pow10 w) :
    Calls Tryz.prog 4 #[x, .slice Al ls.length cl] w fun e w' => e = .returned (.bool true) ∧ Below w.heap.size w w' := by
  have H := Lib.hid h
  obtain ⟨A, c, rfl, _⟩ := h
  obtain ⟨k, n, s, m⟩ := t
  simp only [Tt.kind, Tt.num, Tt.name, Tt.args] at H ⊢
  obtain ⟨w0, hw0⟩ : ∃ w0, w0 = w.alloc (.cells #[.int .i64 v, .int .i64 k, .int .i64 n, .string s, .slice A m.length c] 28) := ⟨_, rfl⟩
  have hb0 : Below w.heap.size w w0 := by rw [hw0]; exact below_new _ _
  have hg0 : w0.heap[w.heap.size]? = some (.cells #[.int .i64 v, .int .i64 k, .int .i64 n, .string s, .slice A m.length c] 28 (0, 0)) := by rw [hw0]; exact heap_alloc_new _ _
  have HW0 := Lib.hid hw0
  have HB0 := Lib.hid hb0
  have HG0 := Lib.hid hg0
  have HF := Lib.hid (lfew_any (c := cl) (H.out.on hb0) hls0 (hR.on hb0))
  have HI : Hid (∀ W, Below w0.heap.size w0 W → Calls Tryz.prog 17 #[.agg #[.int .i64 v, .int .i64 k, .int .i64 n, .string s, .slice A m.length c], .slice Al ls.length cl] W (InstPost W (instT v (.mk k n s m) ls) (instE v (.mk k n s m) ls))) := Lib.hid fun W hW => sinst_any ((H.out.on hb0).on hW) hsz hls0 hsm ((hR.on hb0).on hW) inst_tot
  have HRI : Hid (∀ W, Below w0.heap.size w0 W → Calls Tryz.prog 18 #[.agg #[.int .i64 v, .int .i64 k, .int .i64 n, .string s, .slice A m.length c], .slice Al ls.length cl] W (InstPost W (instT v (.mk k n s m) ls) (instE v (.mk k n s m) ls))) := Lib.hid fun W hW => rinst_any ((H.out.on hb0).on hW) hsz hls0 hsm ((hR.on hb0).on hW) inst_tot
  have HK : Hid (∀ W, Below w0.heap.size w0 W → Calls Tryz.prog 9 #[] W fun e w' => e = .returned (.bool true) ∧ Below W.heap.size W w') := Lib.hid fun W hW => knows_any W ((hT.on hb0).on hW) ((hT2.on hb0).on hW)
  generalize instT v (.mk k n s m) ls = U at *
  generalize instE v (.mk k n s m) ls = er at *
  clear hw0 hb0 hg0 H hR hT hT2 hsm
  go_enter Tryz.func4, Tryz.ntmps4
  go_upto_region 1 with fail
  rw [← HW0.out]
  go_wp2_with (refine wpList_load_row rfl 28 _ rfl w.heap.size rfl 28 _ (0, 0) _ HG0.out Tryz.underlying28 rfl (scSize _ _ _ _ _) ?_)
  refine HF.out.mono ?_
  rintro e w1 ⟨⟨b, rfl⟩, hb1⟩
  have HB1 := Lib.hid hb1
  have HG1 := Lib.hid (row_on HG0.out hb1)
  have HK1 := Lib.hid (HK.out w1 hb1)
  have HI1 := Lib.hid (HI.out w1 hb1)
  clear hb1
  cases b
  case false =>
    go_wp2_with fail
    refine HK1.out.mono ?_
    rintro e w2 ⟨rfl, hb2⟩
    have HB2 := Lib.hid (below_then HB0.out (below_then HB1.out hb2))
    clear hb2
    go_wp2
    go_ret
    exact ⟨rfl, HB2.out⟩
  case true =>
    go_wp2_with (refine wpList_load_row rfl 28 _ rfl w.heap.size rfl 28 _ (0, 0) _ HG1.out Tryz.underlying28 rfl (scSize _ _ _ _ _) ?_)
    refine HI1.out.mono ?_
    rintro e w2 ⟨y, rfl, hy, hb2⟩
    have HY := Lib.hid hy
    obtain ⟨A4, c4, rfl, _⟩ := hy
    obtain ⟨ku, nu, su, lu⟩ := U
    simp only [Tt.kind, Tt.num, Tt.name, Tt.args] at HY ⊢
    have HB2 := Lib.hid (below_then HB1.out hb2)
    have HG2 := Lib.hid (row_on HG1.out hb2)
    have hlt2 := lt_of_cells HG2.out
    clear hb2
    go_wp2_with (first
      | refine wpList_store_row rfl 25 _ _ rfl w2.heap.size _ rfl rfl 25 #[.int .i64 0, .int .i64 0, .string ⟨#[]⟩, .slice none 0 0] (heap_alloc_new _ _) (tySizeA _ _ _ _) rfl (one4 _ _ _ _ _ _) ?_
      | refine wpList_load_row rfl 28 _ rfl w.heap.size rfl 28 _ (0, 0) _ ((setRow_old (by omega)).trans (row_on HG2.out (below_new _ _))) Tryz.underlying28 rfl (scSize _ _ _ _ _) ?_)
    obtain ⟨wb, hwb⟩ : ∃ wb, wb = (w2.alloc (.cells #[.int .i64 0, .int .i64 0, .string ⟨#[]⟩, .slice none 0 0] 25)).setRow w2.heap.size #[.int .i64 ku, .int .i64 nu, .string su, .slice A4 lu.length c4] := ⟨_, rfl⟩
    have hbb : Below w2.heap.size w2 wb := by rw [hwb]; exact below_setRow (below_new _ _) (Nat.le_refl _)
    have hrb : wb.heap[w2.heap.size]? = some (.cells #[.int .i64 ku, .int .i64 nu, .string su, .slice A4 lu.length c4] 25 (0, 0)) := by rw [hwb]; exact setRow_row (heap_alloc_new _ _)
    rw [← hwb]
    have HBB := Lib.hid (below_then HB2.out hbb)
    have HYB := Lib.hid (HY.out.on hbb)
    have HRB := Lib.hid hrb
    have HR2 := Lib.hid (HRI.out wb HBB.out)
    clear hwb hbb hrb
    refine HR2.out.mono ?_
    rintro e w3 ⟨y, rfl, hy, hb3⟩
    have HY3 := Lib.hid hy
    obtain ⟨A5, c5, rfl, _⟩ := hy
    simp only [Tt.kind, Tt.num, Tt.name, Tt.args] at HY3 ⊢
    have HB3 := Lib.hid (below_then HBB.out hb3)
    have HRB3 := Lib.hid (row_on HRB.out hb3)
    have HYB3 := Lib.hid (HYB.out.on hb3)
    have hlt3 := lt_of_cells HRB3.out
    have qe : (er == er) = true := by simp
    clear hb3
    go_wp2_with (first
      | refine wpList_store_row rfl 25 _ _ rfl w3.heap.size _ rfl rfl 25 #[.int .i64 0, .int .i64 0, .string ⟨#[]⟩, .slice none 0 0] (heap_alloc_new _ _) (tySizeA _ _ _ _) rfl (one4 _ _ _ _ _ _) ?_
      | refine wpList_load_row_yes (by kernel_rfl) 25 _ rfl w2.heap.size rfl 25 _ (0, 0) _ ((setRow_old (by omega)).trans (row_on HRB3.out (below_new _ _))) Tryz.underlying25 rfl (tySizeA _ _ _ _) ?_
      | refine wpList_load_row_yes (by kernel_rfl) 25 _ rfl w3.heap.size rfl 25 _ (0, 0) _ (setRow_row (heap_alloc_new _ _)) Tryz.underlying25 rfl (tySizeA _ _ _ _) ?_)
    obtain ⟨wc, hwc⟩ : ∃ wc, wc = (w3.alloc (.cells #[.int .i64 0, .int .i64 0, .string ⟨#[]⟩, .slice none 0 0] 25)).setRow w3.heap.size #[.int .i64 ku, .int .i64 nu, .string su, .slice A5 lu.length c5] := ⟨_, rfl⟩
    have hbc : Below w3.heap.size w3 wc := by rw [hwc]; exact below_setRow (below_new _ _) (Nat.le_refl _)
    rw [← hwc]
    have HBC := Lib.hid (below_then HB3.out hbc)
    have hsa := r8same_val (HYB3.out.on hbc) (HY3.out.on hbc)
    rw [sameT_refl] at hsa
    have HSA := Lib.hid hsa
    clear hwc hbc hsa
    refine HSA.out.mono ?_
    rintro e w4 ⟨rfl, hb4⟩
    have HB4 := Lib.hid (below_then HBC.out hb4)
    have HK4 := Lib.hid (HK.out w4 HB4.out)
    clear hb4
    go_wp2_with fail
    refine HK4.out.mono ?_
    rintro e w5 ⟨rfl, hb5⟩
    have HB5 := Lib.hid (below_then HB0.out (below_then HB4.out hb5))
    clear hb5
    go_wp2
    go_ret
    exact ⟨rfl, HB5.out⟩
end Go.Proofs.YtoopopjcojphaaaGreatDoor
