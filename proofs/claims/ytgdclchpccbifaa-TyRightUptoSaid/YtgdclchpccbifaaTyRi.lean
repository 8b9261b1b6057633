/-
  THE LAW TyRight.
-/
import Derived.Test.YtgdclchpccbifaaTrLeaf
import Derived.Test.YtgdclchpccbifaaTyPu
import Derived.Test.YtgdclchpccbifaaMore
namespace Go.Proofs.Ytgdclchpccbifaa
open Go.ChangeShapes Go.WideShapes Go.ChangeAt Go.RowKit
set_option linter.unusedVariables false
mutual
theorem ok_name : ∀ (d : Nat) {w : World} {S : Nat → Prop} (t : Tt) (cs : List Value), TyRd w S d t cs → ∀ u ∈ pre t, u.name.size ≤ 1048576
  | 0, _, _, _, _, h => h.elim
  | d + 1, w, S, .mk k n s l, cs, h => by
    obtain ⟨A, c, _, _, _, h2, h3⟩ := h
    intro u hu
    rw [pre, List.mem_cons] at hu
    rcases hu with rfl | hu
    · exact h2
    · exact ok_nameL d l (fun t ht => by
        obtain ⟨i, hi, rfl⟩ := List.getElem_of_mem ht
        obtain ⟨b, o, cs', _, _, _, hd⟩ := h3 i _ (List.getElem?_eq_getElem hi)
        exact ⟨cs', hd⟩) u hu
theorem ok_nameL : ∀ (d : Nat) {w : World} {S : Nat → Prop} (l : List Tt), (∀ t ∈ l, ∃ cs, TyRd w S d t cs) → ∀ u ∈ preL l, u.name.size ≤ 1048576
  | _, _, _, [], _ => by simp [preL]
  | d, w, S, t :: l, h => by
    intro u hu
    rw [preL, List.mem_append] at hu
    rcases hu with hu | hu
    · obtain ⟨cs, hd⟩ := h t (List.mem_cons_self ..)
      exact ok_name d t cs hd u hu
    · exact ok_nameL d l (fun t' ht => h t' (List.mem_cons_of_mem _ ht)) u hu
end
section
variable {w : World} {a : Tt} {x : Value}
theorem rsize_val (ha : Val w a x) (hsz : (pre a).length ≤ 1048576) : Calls Try.prog 13 #[x] w fun e w' => e = .returned (.int .i64 ((pre a).length : Nat)) ∧ Below w.heap.size w w' := by
  obtain ⟨A, c, rfl, d, hd⟩ := ha
  obtain ⟨k, n, s, l⟩ := a
  have HO := Lib.hid (ofTy_any 0 d k n s l A c (w.alloc (.cells #[.int .i64 k, .int .i64 n, .string s, .slice A l.length c] 25)) _ (fun _ h => h) hsz (TyRd.more (fun b hb => Nat.lt_of_lt_of_le hb (below_new _ _).size) _ _ _ (TyRd.keep (Same.of_below (below_new w _) fun b hb => hb) _ _ _ hd)))
  generalize pre (.mk k n s l) = P at *
  clear hd
  go_enter Try.func13, Try.ntmps13
  go_wp2_with (go_at_call 44; refine HO.out.mono ?_; rintro e w1 ⟨A1, c1, rows, rfl, ho, hb⟩; have HB := Lib.hid hb; clear hb ho)
  go_ret
  exact ⟨rfl, below_then (below_new _ _) HB.out⟩
theorem rright_val (ha : Val w a x) (hsz : (pre a).length ≤ 1048576) : Calls Try.prog 11 #[x] w fun e w' => e = .returned (.bool (rightT a)) ∧ Below w.heap.size w w' := by
  have HA := Lib.hid ha
  obtain ⟨A, c, rfl, _⟩ := ha
  obtain ⟨k, n, s, l⟩ := a
  simp only [Tt.kind, Tt.num, Tt.name, Tt.args] at HA ⊢
  obtain ⟨w0, hw0⟩ : ∃ w0, w0 = w.alloc (.cells #[.int .i64 k, .int .i64 n, .string s, .slice A l.length c] 25) := ⟨_, rfl⟩
  have hb0 : Below w.heap.size w w0 := by rw [hw0]; exact below_new _ _
  have hg0 : w0.heap[w.heap.size]? = some (.cells #[.int .i64 k, .int .i64 n, .string s, .slice A l.length c] 25 (0, 0)) := by rw [hw0]; exact heap_alloc_new _ _
  have HT := Lib.hid (HA.out.on hb0)
  have HB := Lib.hid hb0
  have HG0 := Lib.hid hg0
  have HW0 := Lib.hid hw0
  have HR : Hid (rightT (.mk k n s l) = (decide ((pre (.mk k n s l)).length ≤ 256) && formedT (.mk k n s l))) := Lib.hid rfl
  have HF := Lib.hid (fun W (h : Val W (.mk k n s l) (.agg #[.int .i64 k, .int .i64 n, .string s, .slice A l.length c])) => formed_val h hsz)
  have HS := Lib.hid (fun W (h : Val W (.mk k n s l) (.agg #[.int .i64 k, .int .i64 n, .string s, .slice A l.length c])) => rsize_val h hsz)
  generalize rightT (.mk k n s l) = r at *
  generalize (pre (.mk k n s l)).length = N at *
  generalize formedT (.mk k n s l) = f at *
  clear hb0 hg0 hw0
  by_cases hle : N ≤ 256
  case neg =>
    have q : ¬ ((N : Int) ≤ 256) := by omega
    go_enter Try.func11, Try.ntmps11
    go_upto_region 1 with fail
    rw [← HW0.out]
    go_wp2_with (refine wpList_load_row rfl 25 _ rfl w.heap.size rfl 25 #[.int .i64 k, .int .i64 n, .string s, .slice A l.length c] (0, 0) _ HG0.out Try.underlying25 rfl (tySizeA _ _ _ _) ?_)
    refine (HS.out _ HT.out).mono ?_
    rintro e w1 ⟨rfl, hb⟩
    have HB := Lib.hid (below_then HB.out hb)
    clear hb
    go_wp2
    go_ret
    exact ⟨ret_bool (by rw [HR.out, decide_eq_false hle]; rfl), HB.out⟩
  have q : (N : Int) ≤ 256 := by omega
  go_enter Try.func11, Try.ntmps11
  go_upto_region 1 with fail
  rw [← HW0.out]
  go_wp2_with (refine wpList_load_row rfl 25 _ rfl w.heap.size rfl 25 #[.int .i64 k, .int .i64 n, .string s, .slice A l.length c] (0, 0) _ HG0.out Try.underlying25 rfl (tySizeA _ _ _ _) ?_)
  refine (HS.out _ HT.out).mono ?_
  rintro e w1 ⟨rfl, hb⟩
  have HT := Lib.hid (HT.out.on hb)
  have HG0 := Lib.hid (row_on HG0.out hb)
  have HB := Lib.hid (below_then HB.out hb)
  clear hb
  go_wp2_with (refine wpList_load_row_yes (by kernel_rfl) 25 _ rfl w.heap.size rfl 25 #[.int .i64 k, .int .i64 n, .string s, .slice A l.length c] (0, 0) _ HG0.out Try.underlying25 rfl (tySizeA _ _ _ _) ?_)
  refine (HF.out _ HT.out).mono ?_
  rintro e w2 ⟨rfl, hb⟩
  have HB := Lib.hid (below_then HB.out hb)
  clear hb
  go_wp2
  go_ret
  exact ⟨ret_bool (by rw [HR.out, decide_eq_true hle]; rfl), HB.out⟩
theorem low_all (ha : Val w a x) : ∀ u ∈ pre a, LowOk u := by
  obtain ⟨A, c, rfl, d, hd⟩ := ha
  intro u hu _ _ _
  exact lowIs _ (ok_name d _ _ hd u hu)
end
set_option maxRecDepth 100000 in
set_option maxHeartbeats 16000000 in
theorem rights_run (k n : Int) (s : ByteArray) (l : List Tt) (A : Option Addr) (c : Nat) (k' n' : Int) (s' : ByteArray) (l' : List Tt) (A' : Option Addr) (c' : Nat) (hsz : (pre (.mk k n s l)).length ≤ 1048576) (w : World)
    (h : Val w (.mk k n s l) (.agg #[.int .i64 k, .int .i64 n, .string s, .slice A l.length c])) (h' : Val w (.mk k' n' s' l') (.agg #[.int .i64 k', .int .i64 n', .string s', .slice A' l'.length c'])) : Calls Try.prog 3 #[.agg #[.int .i64 k, .int .i64 n, .string s, .slice A l.length c], .agg #[.int .i64 k', .int .i64 n', .string s', .slice A' l'.length c']] w fun e w' => e = .returned (.bool true) ∧ Below w.heap.size w w' := by
  obtain ⟨w0, hw0⟩ : ∃ w0, w0 = (w.alloc (.cells #[.int .i64 k, .int .i64 n, .string s, .slice A l.length c] 25)).alloc (.cells #[.int .i64 k', .int .i64 n', .string s', .slice A' l'.length c'] 25) := ⟨_, rfl⟩
  have hb0 : Below w.heap.size w w0 := by rw [hw0]; exact (below_new _ _).alloc (by simp) _
  have hg1 : w0.heap[w.heap.size]? = some (.cells #[.int .i64 k, .int .i64 n, .string s, .slice A l.length c] 25 (0, 0)) := by rw [hw0]; exact (Below.heap_alloc _ _ _ (by rw [World.size_alloc]; omega)).trans (heap_alloc_new _ _)
  have hg2 : w0.heap[w.heap.size + 1]? = some (.cells #[.int .i64 k', .int .i64 n', .string s', .slice A' l'.length c'] 25 (0, 0)) := by rw [hw0]; have := heap_alloc_new (w.alloc (.cells #[.int .i64 k, .int .i64 n, .string s, .slice A l.length c] 25)) (.cells #[.int .i64 k', .int .i64 n', .string s', .slice A' l'.length c'] 25); rwa [World.size_alloc] at this
  have HB := Lib.hid hb0
  have HX0 : Hid (∀ W', Below w0.heap.size w0 W' → W'.heap[w.heap.size]? = some (.cells #[.int .i64 k, .int .i64 n, .string s, .slice A l.length c] 25 (0, 0))) := Lib.hid fun W' h => row_on hg1 h
  have HX1 : Hid (∀ W', Below w0.heap.size w0 W' → W'.heap[w.heap.size + 1]? = some (.cells #[.int .i64 k', .int .i64 n', .string s', .slice A' l'.length c'] 25 (0, 0))) := Lib.hid fun W' h => row_on hg2 h
  have HT := Lib.hid (h.on hb0)
  have HT2 := Lib.hid (h'.on hb0)
  have HW0 := Lib.hid hw0
  clear hb0 hg1 hg2 h h' hw0
  obtain ⟨T, hT⟩ : ∃ T, T = Tt.mk k n s l := ⟨_, rfl⟩
  obtain ⟨U, hU⟩ : ∃ U, U = Tt.mk k' n' s' l' := ⟨_, rfl⟩
  rw [← hT] at HT hsz
  rw [← hU] at HT2
  clear hT hU
  go_enter Try.func3, Try.ntmps3
  go_upto_region 1 with fail
  rw [← HW0.out]
  have HRV := Lib.hid (fun W (h : Val W T (.agg #[.int .i64 k, .int .i64 n, .string s, .slice A l.length c])) => right_val h hsz (low_all h))
  have HRR := Lib.hid (fun W (h : Val W T (.agg #[.int .i64 k, .int .i64 n, .string s, .slice A l.length c])) => rright_val h hsz)
  have HSV := Lib.hid (fun W (h : Val W T (.agg #[.int .i64 k, .int .i64 n, .string s, .slice A l.length c])) => size_val h hsz)
  have HSR := Lib.hid (fun W (h : Val W T (.agg #[.int .i64 k, .int .i64 n, .string s, .slice A l.length c])) => rsize_val h hsz)
  have HEV := Lib.hid (fun W (h : Val W T (.agg #[.int .i64 k, .int .i64 n, .string s, .slice A l.length c])) (h' : Val W U (.agg #[.int .i64 k', .int .i64 n', .string s', .slice A' l'.length c'])) => same_val h h')
  have HER := Lib.hid (fun W (h : Val W T (.agg #[.int .i64 k, .int .i64 n, .string s, .slice A l.length c])) (h' : Val W U (.agg #[.int .i64 k', .int .i64 n', .string s', .slice A' l'.length c'])) => r8same_val h h')
  have q1 : (((pre T).length : Int) == (pre T).length) = true := by simp
  generalize (pre T).length = N at *
  generalize rightT T = r at *
  generalize sameT T U = e0 at *
  have q2 : (r == r) = true := by simp
  have q3 : (e0 == e0) = true := by simp
  refine wp_region_K (fun w' => Below w0.heap.size w0 w') (fun j => true) (by kernel_rfl) ?_
  have HS := Lib.hid (below_drew1 (Below.refl w0.heap.size w0))
  have HT := Lib.hid (HT.out.on HS.out)
  have HT2 := Lib.hid (HT2.out.on HS.out)
  refine wpK_take (v := .agg #[.int .i64 k, .int .i64 n, .string s, .slice A l.length c]) (a' := ?_) 0 rfl (by kernel_rfl) (by kernel_rfl) (by kernel_rfl) (by kernel_rfl) (by kernel_rfl) (fun _ _ _ h => h) HS.out ?_ ?_ ?_
  rotate_left 1
  · exact yieldsIf_load_mid (by kernel_rfl) 25 (.tmp 2) rfl (w.heap.size) 0 (by go_simp) _ _ (fun wS hS => range_row (HX0.out _ hS)) Try.underlying25 rfl (tySize _ _ _ _)
  · go_simp; with_reducible rfl
  refine wpK_take (v := .agg #[.int .i64 k, .int .i64 n, .string s, .slice A l.length c]) (a' := ?_) 2 rfl (by kernel_rfl) (by kernel_rfl) (by kernel_rfl) (by kernel_rfl) (by kernel_rfl) (fun _ _ _ h => h) HS.out ?_ ?_ ?_
  rotate_left 1
  · exact yieldsIf_load_mid (by kernel_rfl) 25 (.tmp 2) rfl (w.heap.size) 0 (by go_simp) _ _ (fun wS hS => range_row (HX0.out _ hS)) Try.underlying25 rfl (tySize _ _ _ _)
  · go_simp; with_reducible rfl
  refine wpK_one 1 rfl (by kernel_rfl) (fun K hK => ?_)
  have HKK := Lib.hid hK
  clear hK
  go_wp2_with fail
  refine (HRV.out _ HT.out).mono ?_
  rintro e w11 ⟨rfl, hb⟩
  have HS := Lib.hid (HS.out.trans (hb.mono HS.out.size))
  have HT := Lib.hid (HT.out.on hb)
  have HT2 := Lib.hid (HT2.out.on hb)
  clear hb
  go_wp2
  refine HKK.out _ _ (fun _ _ => HS.out) ?_
  refine wpK_one 3 rfl (by kernel_rfl) (fun K hK => ?_)
  have HKK := Lib.hid hK
  clear hK
  go_wp2_with fail
  refine (HRR.out _ HT.out).mono ?_
  rintro e w12 ⟨rfl, hb⟩
  have HS := Lib.hid (HS.out.trans (hb.mono HS.out.size))
  have HT := Lib.hid (HT.out.on hb)
  have HT2 := Lib.hid (HT2.out.on hb)
  clear hb
  go_wp2
  refine HKK.out _ _ (fun _ _ => HS.out) ?_
  refine wpK_take0 (v := ?_) (a' := ?_) 4 rfl (by kernel_rfl) (by kernel_rfl) (by kernel_rfl) (by kernel_rfl) (fun _ _ _ h => h) ?_ ?_ ?_
  rotate_left 2
  · refine .inl ⟨by kernel_rfl, ?_⟩; intro wS hS; clear hS; go_simp; with_reducible rfl
  · go_simp; with_reducible rfl
  refine wpK_take0 (v := ?_) (a' := ?_) 5 rfl (by kernel_rfl) (by kernel_rfl) (by kernel_rfl) (by kernel_rfl) (fun _ _ _ h => h) ?_ ?_ ?_
  rotate_left 2
  · refine .inl ⟨by kernel_rfl, ?_⟩; intro wS hS; clear hS; go_simp; with_reducible rfl
  · go_simp; with_reducible rfl
  refine wpK_take (v := .agg #[.int .i64 k, .int .i64 n, .string s, .slice A l.length c]) (a' := ?_) 6 rfl (by kernel_rfl) (by kernel_rfl) (by kernel_rfl) (by kernel_rfl) (by kernel_rfl) (fun _ _ _ h => h) HS.out ?_ ?_ ?_
  rotate_left 1
  · exact yieldsIf_load_mid (by kernel_rfl) 25 (.tmp 2) rfl (w.heap.size) 0 (by go_simp) _ _ (fun wS hS => range_row (HX0.out _ hS)) Try.underlying25 rfl (tySize _ _ _ _)
  · go_simp; with_reducible rfl
  refine wpK_take (v := .agg #[.int .i64 k, .int .i64 n, .string s, .slice A l.length c]) (a' := ?_) 8 rfl (by kernel_rfl) (by kernel_rfl) (by kernel_rfl) (by kernel_rfl) (by kernel_rfl) (fun _ _ _ h => h) HS.out ?_ ?_ ?_
  rotate_left 1
  · exact yieldsIf_load_mid (by kernel_rfl) 25 (.tmp 2) rfl (w.heap.size) 0 (by go_simp) _ _ (fun wS hS => range_row (HX0.out _ hS)) Try.underlying25 rfl (tySize _ _ _ _)
  · go_simp; with_reducible rfl
  refine wpK_one 7 rfl (by kernel_rfl) (fun K hK => ?_)
  have HKK := Lib.hid hK
  clear hK
  go_wp2_with fail
  refine (HSV.out _ HT.out).mono ?_
  rintro e w13 ⟨rfl, hb⟩
  have HS := Lib.hid (HS.out.trans (hb.mono HS.out.size))
  have HT := Lib.hid (HT.out.on hb)
  have HT2 := Lib.hid (HT2.out.on hb)
  clear hb
  go_wp2
  refine HKK.out _ _ (fun _ _ => HS.out) ?_
  refine wpK_one 9 rfl (by kernel_rfl) (fun K hK => ?_)
  have HKK := Lib.hid hK
  clear hK
  go_wp2_with fail
  refine (HSR.out _ HT.out).mono ?_
  rintro e w14 ⟨rfl, hb⟩
  have HS := Lib.hid (HS.out.trans (hb.mono HS.out.size))
  have HT := Lib.hid (HT.out.on hb)
  have HT2 := Lib.hid (HT2.out.on hb)
  clear hb
  go_wp2
  refine HKK.out _ _ (fun _ _ => HS.out) ?_
  refine wpK_take0 (v := ?_) (a' := ?_) 10 rfl (by kernel_rfl) (by kernel_rfl) (by kernel_rfl) (by kernel_rfl) (fun _ _ _ h => h) ?_ ?_ ?_
  rotate_left 2
  · refine .inl ⟨by kernel_rfl, ?_⟩; intro wS hS; clear hS; go_simp; with_reducible rfl
  · go_simp; with_reducible rfl
  refine wpK_take0 (v := ?_) (a' := ?_) 11 rfl (by kernel_rfl) (by kernel_rfl) (by kernel_rfl) (by kernel_rfl) (fun _ _ _ h => h) ?_ ?_ ?_
  rotate_left 2
  · refine .inl ⟨by kernel_rfl, ?_⟩; intro wS hS; clear hS; go_simp; with_reducible rfl
  · go_simp; with_reducible rfl
  refine wpK_take0 (v := ?_) (a' := ?_) 12 rfl (by kernel_rfl) (by kernel_rfl) (by kernel_rfl) (by kernel_rfl) (fun _ _ _ h => h) ?_ ?_ ?_
  rotate_left 2
  · refine .inl ⟨by kernel_rfl, ?_⟩; intro wS hS; clear hS; go_simp; with_reducible rfl
  · go_simp; with_reducible rfl
  refine wpK_take (v := .agg #[.int .i64 k, .int .i64 n, .string s, .slice A l.length c]) (a' := ?_) 13 rfl (by kernel_rfl) (by kernel_rfl) (by kernel_rfl) (by kernel_rfl) (by kernel_rfl) (fun _ _ _ h => h) HS.out ?_ ?_ ?_
  rotate_left 1
  · exact yieldsIf_load_mid (by kernel_rfl) 25 (.tmp 2) rfl (w.heap.size) 0 (by go_simp) _ _ (fun wS hS => range_row (HX0.out _ hS)) Try.underlying25 rfl (tySize _ _ _ _)
  · go_simp; with_reducible rfl
  refine wpK_take (v := .agg #[.int .i64 k', .int .i64 n', .string s', .slice A' l'.length c']) (a' := ?_) 14 rfl (by kernel_rfl) (by kernel_rfl) (by kernel_rfl) (by kernel_rfl) (by kernel_rfl) (fun _ _ _ h => h) HS.out ?_ ?_ ?_
  rotate_left 1
  · exact yieldsIf_load_mid (by kernel_rfl) 25 (.tmp 3) rfl (w.heap.size + 1) 0 (by go_simp) _ _ (fun wS hS => range_row (HX1.out _ hS)) Try.underlying25 rfl (tySize _ _ _ _)
  · go_simp; with_reducible rfl
  refine wpK_take (v := .agg #[.int .i64 k, .int .i64 n, .string s, .slice A l.length c]) (a' := ?_) 16 rfl (by kernel_rfl) (by kernel_rfl) (by kernel_rfl) (by kernel_rfl) (by kernel_rfl) (fun _ _ _ h => h) HS.out ?_ ?_ ?_
  rotate_left 1
  · exact yieldsIf_load_mid (by kernel_rfl) 25 (.tmp 2) rfl (w.heap.size) 0 (by go_simp) _ _ (fun wS hS => range_row (HX0.out _ hS)) Try.underlying25 rfl (tySize _ _ _ _)
  · go_simp; with_reducible rfl
  refine wpK_take (v := .agg #[.int .i64 k', .int .i64 n', .string s', .slice A' l'.length c']) (a' := ?_) 17 rfl (by kernel_rfl) (by kernel_rfl) (by kernel_rfl) (by kernel_rfl) (by kernel_rfl) (fun _ _ _ h => h) HS.out ?_ ?_ ?_
  rotate_left 1
  · exact yieldsIf_load_mid (by kernel_rfl) 25 (.tmp 3) rfl (w.heap.size + 1) 0 (by go_simp) _ _ (fun wS hS => range_row (HX1.out _ hS)) Try.underlying25 rfl (tySize _ _ _ _)
  · go_simp; with_reducible rfl
  refine wpK_one 15 rfl (by kernel_rfl) (fun K hK => ?_)
  have HKK := Lib.hid hK
  clear hK
  go_wp2_with fail
  refine (HEV.out _ HT.out HT2.out).mono ?_
  rintro e w15 ⟨rfl, hb⟩
  have HS := Lib.hid (HS.out.trans (hb.mono HS.out.size))
  have HT := Lib.hid (HT.out.on hb)
  have HT2 := Lib.hid (HT2.out.on hb)
  clear hb
  go_wp2
  refine HKK.out _ _ (fun _ _ => HS.out) ?_
  refine wpK_one 18 rfl (by kernel_rfl) (fun K hK => ?_)
  have HKK := Lib.hid hK
  clear hK
  go_wp2_with fail
  refine (HER.out _ HT.out HT2.out).mono ?_
  rintro e w16 ⟨rfl, hb⟩
  have HS := Lib.hid (HS.out.trans (hb.mono HS.out.size))
  have HT := Lib.hid (HT.out.on hb)
  have HT2 := Lib.hid (HT2.out.on hb)
  clear hb
  go_wp2
  refine HKK.out _ _ (fun _ _ => HS.out) ?_
  refine wpK_take0 (v := ?_) (a' := ?_) 19 rfl (by kernel_rfl) (by kernel_rfl) (by kernel_rfl) (by kernel_rfl) (fun _ _ _ h => h) ?_ ?_ ?_
  rotate_left 2
  · refine .inl ⟨by kernel_rfl, ?_⟩; intro wS hS; clear hS; go_simp; with_reducible rfl
  · go_simp; with_reducible rfl
  refine wpK_take0 (v := ?_) (a' := ?_) 20 rfl (by kernel_rfl) (by kernel_rfl) (by kernel_rfl) (by kernel_rfl) (fun _ _ _ h => h) ?_ ?_ ?_
  rotate_left 2
  · refine .inl ⟨by kernel_rfl, ?_⟩; intro wS hS; clear hS; go_simp; with_reducible rfl
  · go_simp; with_reducible rfl
  refine wpK_take0 (v := ?_) (a' := ?_) 21 rfl (by kernel_rfl) (by kernel_rfl) (by kernel_rfl) (by kernel_rfl) (fun _ _ _ h => h) ?_ ?_ ?_
  rotate_left 2
  · refine .inl ⟨by kernel_rfl, ?_⟩; intro wS hS; clear hS; go_simp; with_reducible rfl
  · go_simp; with_reducible rfl
  refine wpK_take (v := .agg #[.int .i64 k, .int .i64 n, .string s, .slice A l.length c]) (a' := ?_) 22 rfl (by kernel_rfl) (by kernel_rfl) (by kernel_rfl) (by kernel_rfl) (by kernel_rfl) (fun _ _ _ h => h) HS.out ?_ ?_ ?_
  rotate_left 1
  · exact yieldsIf_load_mid (by kernel_rfl) 25 (.tmp 2) rfl (w.heap.size) 0 (by go_simp) _ _ (fun wS hS => range_row (HX0.out _ hS)) Try.underlying25 rfl (tySize _ _ _ _)
  · go_simp; with_reducible rfl
  refine wpK_take (v := .agg #[.int .i64 k, .int .i64 n, .string s, .slice A l.length c]) (a' := ?_) 23 rfl (by kernel_rfl) (by kernel_rfl) (by kernel_rfl) (by kernel_rfl) (by kernel_rfl) (fun _ _ _ h => h) HS.out ?_ ?_ ?_
  rotate_left 1
  · exact yieldsIf_load_mid (by kernel_rfl) 25 (.tmp 2) rfl (w.heap.size) 0 (by go_simp) _ _ (fun wS hS => range_row (HX0.out _ hS)) Try.underlying25 rfl (tySize _ _ _ _)
  · go_simp; with_reducible rfl
  refine wpK_one 24 rfl (by kernel_rfl) (fun K hK => ?_)
  have HKK := Lib.hid hK
  clear hK
  go_wp2_with fail
  refine (same_self HT.out HT.out).mono ?_
  rintro e w17 ⟨rfl, hb⟩
  have HS := Lib.hid (HS.out.trans (hb.mono HS.out.size))
  clear hb
  go_wp2
  refine HKK.out _ _ (fun _ _ => HS.out) ?_
  refine wpK_take0 (v := ?_) (a' := ?_) 25 rfl (by kernel_rfl) (by kernel_rfl) (by kernel_rfl) (by kernel_rfl) (fun _ _ _ h => h) ?_ ?_ ?_
  rotate_left 2
  · refine .inl ⟨by kernel_rfl, ?_⟩; intro wS hS; clear hS; go_simp; with_reducible rfl
  · go_simp; with_reducible rfl
  refine wpK_take0 (v := ?_) (a' := ?_) 26 rfl (by kernel_rfl) (by kernel_rfl) (by kernel_rfl) (by kernel_rfl) (fun _ _ _ h => h) ?_ ?_ ?_
  rotate_left 2
  · refine .inl ⟨by kernel_rfl, ?_⟩; intro wS hS; clear hS; go_simp; with_reducible rfl
  · go_simp; with_reducible rfl
  refine wpK_one 27 rfl (by kernel_rfl) (fun K hK => ?_)
  have HKK := Lib.hid hK
  clear hK
  go_wp2_with fail
  refine (knows_any _).mono ?_
  rintro e w18 ⟨rfl, hb⟩
  have HS := Lib.hid (HS.out.trans (hb.mono HS.out.size))
  clear hb
  go_wp2
  refine HKK.out _ _ (fun _ _ => HS.out) ?_
  refine wpK_take0 (v := ?_) (a' := ?_) 28 rfl (by kernel_rfl) (by kernel_rfl) (by kernel_rfl) (by kernel_rfl) (fun _ _ _ h => h) ?_ ?_ ?_
  rotate_left 2
  · refine .inl ⟨by kernel_rfl, ?_⟩; intro wS hS; clear hS; go_simp; with_reducible rfl
  · go_simp; with_reducible rfl
  refine wpK_take0 (v := ?_) (a' := ?_) 29 rfl (by kernel_rfl) (by kernel_rfl) (by kernel_rfl) (by kernel_rfl) (fun _ _ _ h => h) ?_ ?_ ?_
  rotate_left 2
  · refine .inl ⟨by kernel_rfl, ?_⟩; intro wS hS; clear hS; go_simp; with_reducible rfl
  · go_simp; with_reducible rfl
  refine wpK_end (by kernel_rfl) ?_ _
  go_wp2
  go_ret
  exact ⟨rfl, below_then HB.out HS.out⟩
end Go.Proofs.Ytgdclchpccbifaa
