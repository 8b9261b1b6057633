/-
  THE LAW TyPuts.
-/
import Derived.Test.YtgdclchpccbifaaTyN
import Derived.Test.YtgdclchpccbifaaTyQ
namespace Go.Proofs.Ytgdclchpccbifaa
open Go.ChangeShapes Go.WideShapes Go.ChangeAt Go.RowKit
set_option linter.unusedVariables false
theorem ints_on {w w' : World} {A : Option Addr} {xs : List Int} (h : IntsAt w w.heap.size A xs) (hb : Below w.heap.size w w') : IntsAt w' w'.heap.size A xs := (h.below hb).more hb.size
theorem rows_on {w w' : World} {A : Option Addr} {l : List Tt} (h : Rows TyR 4 w (Lt w.heap.size) A l) (hb : Below w.heap.size w w') : Rows TyR 4 w' (Lt w'.heap.size) A l := (h.keep (Same.lt hb)).more fun b hB => Nat.lt_of_lt_of_le hB hb.size
theorem row_on {w w' : World} {g : Nat} {o : Obj} (h : w.heap[g]? = some o) (hb : Below w.heap.size w w') : w'.heap[g]? = some o := (hb.block _ (lt_of_cells h)).trans h
section
variable {w : World} {a : Tt} {x : Value}
theorem rvars_val (ha : Val w a x) (hsz : (pre a).length ≤ 1048576) : Calls Try.prog 27 #[x] w (IntsMade w (varsT a)) := by
  obtain ⟨A, c, rfl, d, ha⟩ := ha
  obtain ⟨k, n, s, l⟩ := a
  exact rvars_any d k n s l A c w _ (fun _ h => h) hsz ha
theorem rput_val (ha : Val w a x) {ls : List Tt} {Al : Option Addr} {cl : Nat} (hR : Rows TyR 4 w (Lt w.heap.size) Al ls) (hl : ls.length ≤ 1048576) : Calls Try.prog 29 #[x, .slice Al ls.length cl] w (Gave w (rputT ls a)) := by
  obtain ⟨A, c, rfl, d, ha⟩ := ha
  obtain ⟨k, n, s, l⟩ := a
  exact (rput_any hl d k n s l A c w _ (fun _ h => h) ha hR).mono fun _ _ h => h.gave
theorem rcanon_val (ha : Val w a x) (hsz : (pre a).length ≤ 1048576) : Calls Try.prog 24 #[x] w (CanonMade8 w (renT (varsT a) a) (varsT a)) := by
  obtain ⟨A, c, rfl, d, ha⟩ := ha
  obtain ⟨k, n, s, l⟩ := a
  exact rcanon_any d k n s l A c w hsz ha
end
set_option maxRecDepth 100000 in
set_option maxHeartbeats 8000000 in
theorem puts_run (k n : Int) (s : ByteArray) (l : List Tt) (A : Option Addr) (c : Nat) (ls : List Tt) (Al : Option Addr) (cl : Nat) (hsz : (pre (.mk k n s l)).length ≤ 1048576) (hls : ls.length ≤ 1048576) (hlsz : ∀ t ∈ ls, (pre t).length ≤ 1048576) (w : World)
    (h : Val w (.mk k n s l) (.agg #[.int .i64 k, .int .i64 n, .string s, .slice A l.length c])) (hR : Rows TyR 4 w (Lt w.heap.size) Al ls) : Calls Try.prog 5 #[.agg #[.int .i64 k, .int .i64 n, .string s, .slice A l.length c], .slice Al ls.length cl] w fun e w' => e = .returned (.bool true) ∧ Below w.heap.size w w' := by
  obtain ⟨w0, hw0⟩ : ∃ w0, w0 = w.alloc (.cells #[.int .i64 k, .int .i64 n, .string s, .slice A l.length c] 25) := ⟨_, rfl⟩
  have hb0 : Below w.heap.size w w0 := by rw [hw0]; exact below_new _ _
  have hg0 : w0.heap[w.heap.size]? = some (.cells #[.int .i64 k, .int .i64 n, .string s, .slice A l.length c] 25 (0, 0)) := by rw [hw0]; exact heap_alloc_new _ _
  have HB0 := Lib.hid hb0
  have HG0 := Lib.hid hg0
  have HT := Lib.hid (h.on hb0)
  have HRR := Lib.hid (rows_on hR hb0)
  have HW0 := Lib.hid hw0
  clear hb0 hg0 h hR hw0
  have HLZ := Lib.hid hlsz
  clear hlsz
  cases hf : formedT (.mk k n s l)
  · have HF := Lib.hid hf
    clear hf
    go_enter Try.func5, Try.ntmps5
    go_wp2_with fail
    rw [← HW0.out]
    refine (formed_val HT.out hsz).mono ?_
    rw [HF.out]
    rintro e w1 ⟨rfl, hb1⟩
    have HB1 := Lib.hid (below_then HB0.out hb1)
    clear hb1
    go_wp2_with (go_at_call 16; refine (knows_any _).mono ?_; rintro e w2 ⟨rfl, hb2⟩; have HB2 := Lib.hid hb2; clear hb2)
    go_ret
    exact ⟨rfl, below_then HB1.out HB2.out⟩
  cases hfl : ls.all formedT
  · have HF := Lib.hid hf
    have HFL := Lib.hid hfl
    clear hf hfl
    go_enter Try.func5, Try.ntmps5
    go_wp2_with fail
    rw [← HW0.out]
    refine (formed_val HT.out hsz).mono ?_
    rw [HF.out]
    rintro e w1 ⟨rfl, hb1⟩
    have HRR := Lib.hid (rows_on HRR.out hb1)
    have HB1 := Lib.hid (below_then HB0.out hb1)
    clear hb1
    go_wp2_with fail
    refine (lformed_any ls Al cl hls _ HRR.out HLZ.out).mono ?_
    rw [HFL.out]
    rintro e w2 ⟨rfl, hb2⟩
    have HB2 := Lib.hid (below_then HB1.out hb2)
    clear hb2
    go_wp2_with (go_at_call 16; refine (knows_any _).mono ?_; rintro e w3 ⟨rfl, hb3⟩; have HB3 := Lib.hid hb3; clear hb3)
    go_ret
    exact ⟨rfl, below_then HB2.out HB3.out⟩
  have HPE := Lib.hid (put_eq ls _ hf)
  have HCE := Lib.hid (canon_eq hf)
  have HF := Lib.hid hf
  have HFL := Lib.hid hfl
  clear hf hfl
  have hvl := Nat.le_trans (vars_le (.mk k n s l)) hsz
  obtain ⟨T, hT⟩ : ∃ T, T = Tt.mk k n s l := ⟨_, rfl⟩
  rw [← hT] at HPE HCE HF HT hsz hvl
  have HTE := Lib.hid hT
  clear hT
  go_enter Try.func5, Try.ntmps5
  go_wp2_with fail
  rw [← HW0.out]
  refine (formed_val HT.out hsz).mono ?_
  rw [HF.out]
  rintro e w1 ⟨rfl, hb1⟩
  have HRR := Lib.hid (rows_on HRR.out hb1)
  have HT := Lib.hid (HT.out.on hb1)
  have HG0 := Lib.hid (row_on HG0.out hb1)
  have HB := Lib.hid (below_then HB0.out hb1)
  clear hb1
  go_wp2_with fail
  refine (lformed_any ls Al cl hls _ HRR.out HLZ.out).mono ?_
  rw [HFL.out]
  rintro e w2 ⟨rfl, hb⟩
  have HRR := Lib.hid (rows_on HRR.out hb)
  have HT := Lib.hid (HT.out.on hb)
  have HG0 := Lib.hid (row_on HG0.out hb)
  have HB := Lib.hid (below_then HB.out hb)
  clear hb
  go_wp2_with (refine wpList_load_row rfl 25 _ rfl w.heap.size rfl 25 #[.int .i64 k, .int .i64 n, .string s, .slice A l.length c] (0, 0) _ HG0.out Try.underlying25 rfl (tySizeA _ _ _ _) ?_)
  refine (canon_val HT.out hsz).mono ?_
  rintro e w3 ⟨va, A5, c5, rfl, ⟨A6, c6, rfl, hd6⟩, hi, _, _, hb⟩
  have hva : Val w3 (canonT T) (.agg #[.int .i64 (canonT T).kind, .int .i64 (canonT T).num, .string (canonT T).name, .slice A6 (canonT T).args.length c6]) := ⟨A6, c6, rfl, hd6⟩
  clear hd6
  have hrc := HCE.out
  generalize canonT T = CT at *
  obtain ⟨w4, hw4⟩ : ∃ w4, w4 = w3.alloc (.cells #[.int .i64 CT.kind, .int .i64 CT.num, .string CT.name, .slice A6 CT.args.length c6] 25) := ⟨_, rfl⟩
  have hb4 : Below w3.heap.size w3 w4 := by rw [hw4]; exact below_new _ _
  have HG5 : Hid (w4.heap[w3.heap.size]? = some (.cells #[.int .i64 CT.kind, .int .i64 CT.num, .string CT.name, .slice A6 CT.args.length c6] 25 (0, 0))) := Lib.hid (by rw [hw4]; exact heap_alloc_new _ _)
  have hb5 := below_then hb hb4
  have HRR := Lib.hid (rows_on HRR.out hb5)
  have HT := Lib.hid (HT.out.on hb5)
  have HG0 := Lib.hid (row_on HG0.out hb5)
  have HB := Lib.hid (below_then HB.out hb5)
  have HVA := Lib.hid (hva.on hb4)
  have HI := Lib.hid (ints_on hi hb4)
  have HRC := Lib.hid hrc
  have HW4 := Lib.hid hw4
  clear hb hb4 hb5 hva hi hrc hw4
  go_upto_region 4 with fail
  rw [← HW4.out]
  go_wp2_with (refine wpList_load_row rfl 25 _ rfl w.heap.size rfl 25 #[.int .i64 k, .int .i64 n, .string s, .slice A l.length c] (0, 0) _ HG0.out Try.underlying25 rfl (tySizeA _ _ _ _) ?_)
  refine (rcanon_val HT.out hsz).mono ?_
  rintro e w5 ⟨vb, A7, c7, rfl, hvb, hi, _, hb⟩
  rw [← HRC.out] at hvb
  obtain ⟨A8, c8, rfl, hd8⟩ := hvb
  obtain ⟨wr, hw6⟩ : ∃ w6, w6 = w5.alloc (.cells #[.int .i64 CT.kind, .int .i64 CT.num, .string CT.name, .slice A8 CT.args.length c8] 25) := ⟨_, rfl⟩
  have hvb : Val w5 CT (.agg #[.int .i64 CT.kind, .int .i64 CT.num, .string CT.name, .slice A8 CT.args.length c8]) := ⟨A8, c8, rfl, hd8⟩
  have hb6 : Below w5.heap.size w5 wr := by rw [hw6]; exact below_new _ _
  have HG7 : Hid (wr.heap[w5.heap.size]? = some (.cells #[.int .i64 CT.kind, .int .i64 CT.num, .string CT.name, .slice A8 CT.args.length c8] 25 (0, 0))) := Lib.hid (by rw [hw6]; exact heap_alloc_new _ _)
  have hb7 := below_then hb hb6
  have HRR := Lib.hid (rows_on HRR.out hb7)
  have HT := Lib.hid (HT.out.on hb7)
  have HG0 := Lib.hid (row_on HG0.out hb7)
  have HG5 := Lib.hid (row_on HG5.out hb7)
  have HB := Lib.hid (below_then HB.out hb7)
  have HVA := Lib.hid (HVA.out.on hb7)
  have HVB := Lib.hid (hvb.on hb6)
  have HI := Lib.hid (ints_on HI.out hb7)
  have HJ := Lib.hid (ints_on hi hb6)
  have HW6 := Lib.hid hw6
  clear hb hb6 hb7 hvb hd8 hi hw6
  go_upto_region 5 with fail
  rw [← HW6.out]
  have HX0 : Hid (∀ W', Below wr.heap.size wr W' → W'.heap[w.heap.size]? = some (.cells #[.int .i64 k, .int .i64 n, .string s, .slice A l.length c] 25 (0, 0))) := Lib.hid fun W' h => row_on HG0.out h
  have HX5 : Hid (∀ W', Below wr.heap.size wr W' → W'.heap[w3.heap.size]? = some (.cells #[.int .i64 CT.kind, .int .i64 CT.num, .string CT.name, .slice A6 CT.args.length c6] 25 (0, 0))) := Lib.hid fun W' h => row_on HG5.out h
  have HX7 : Hid (∀ W', Below wr.heap.size wr W' → W'.heap[w5.heap.size]? = some (.cells #[.int .i64 CT.kind, .int .i64 CT.num, .string CT.name, .slice A8 CT.args.length c8] 25 (0, 0))) := Lib.hid fun W' h => row_on HG7.out h
  have HVV : Hid (∀ (W : World), Val W T (.agg #[.int .i64 k, .int .i64 n, .string s, .slice A l.length c]) → Calls Try.prog 26 #[.agg #[.int .i64 k, .int .i64 n, .string s, .slice A l.length c]] W (IntsMade W (varsT T))) := Lib.hid fun W h => vars_val h hsz
  have HVR : Hid (∀ (W : World), Val W T (.agg #[.int .i64 k, .int .i64 n, .string s, .slice A l.length c]) → Calls Try.prog 27 #[.agg #[.int .i64 k, .int .i64 n, .string s, .slice A l.length c]] W (IntsMade W (varsT T))) := Lib.hid fun W h => rvars_val h hsz
  generalize varsT T = vs at *
  refine wp_region_K (fun w' => Below wr.heap.size wr w') (fun j => true) (by kernel_rfl) ?_
  have HS := Lib.hid (below_drew1 (Below.refl wr.heap.size wr))
  have HT := Lib.hid (HT.out.on HS.out)
  have HVA := Lib.hid (HVA.out.on HS.out)
  have HVB := Lib.hid (HVB.out.on HS.out)
  have HI := Lib.hid (ints_on HI.out HS.out)
  have HJ := Lib.hid (ints_on HJ.out HS.out)
  have HRR := Lib.hid (rows_on HRR.out HS.out)
  refine wpK_take (v := .agg #[.int .i64 k, .int .i64 n, .string s, .slice A l.length c]) (a' := ?_) 0 rfl (by kernel_rfl) (by kernel_rfl) (by kernel_rfl) (by kernel_rfl) (by kernel_rfl) (fun _ _ _ h => h) HS.out ?_ ?_ ?_
  rotate_left 1
  · exact yieldsIf_load_mid (by kernel_rfl) 25 (.tmp 2) rfl (w.heap.size) 0 (by go_simp) _ _ (fun wS hS => range_row (HX0.out _ hS)) Try.underlying25 rfl (tySize _ _ _ _)
  · go_simp; with_reducible rfl
  refine wpK_take (v := .agg #[.int .i64 k, .int .i64 n, .string s, .slice A l.length c]) (a' := ?_) 2 rfl (by kernel_rfl) (by kernel_rfl) (by kernel_rfl) (by kernel_rfl) (by kernel_rfl) (fun _ _ _ h => h) HS.out ?_ ?_ ?_
  rotate_left 1
  · exact yieldsIf_load_mid (by kernel_rfl) 25 (.tmp 2) rfl (w.heap.size) 0 (by go_simp) _ _ (fun wS hS => range_row (HX0.out _ hS)) Try.underlying25 rfl (tySize _ _ _ _)
  · go_simp; with_reducible rfl
  refine wpK_one 1 rfl (by kernel_rfl) (fun K hK => ?_)
  have HKK := Lib.hid hK
  clear hK
  go_wp2_with fail
  refine (HVV.out _ HT.out).mono ?_
  rintro e w11 ⟨A11, c11, rfl, hi, _, _, _, hb⟩
  have HS := Lib.hid (HS.out.trans (hb.mono HS.out.size))
  have HT := Lib.hid (HT.out.on hb)
  have HVA := Lib.hid (HVA.out.on hb)
  have HVB := Lib.hid (HVB.out.on hb)
  have HI := Lib.hid (ints_on HI.out hb)
  have HJ := Lib.hid (ints_on HJ.out hb)
  have HRR := Lib.hid (rows_on HRR.out hb)
  have HI1 := Lib.hid hi
  clear hb hi
  go_wp2
  refine HKK.out _ _ (fun _ _ => HS.out) ?_
  refine wpK_one 3 rfl (by kernel_rfl) (fun K hK => ?_)
  have HKK := Lib.hid hK
  clear hK
  go_wp2_with fail
  refine (HVR.out _ HT.out).mono ?_
  rintro e w12 ⟨A12, c12, rfl, hi, _, _, _, hb⟩
  have HS := Lib.hid (HS.out.trans (hb.mono HS.out.size))
  have HT := Lib.hid (HT.out.on hb)
  have HVA := Lib.hid (HVA.out.on hb)
  have HVB := Lib.hid (HVB.out.on hb)
  have HI := Lib.hid (ints_on HI.out hb)
  have HJ := Lib.hid (ints_on HJ.out hb)
  have HRR := Lib.hid (rows_on HRR.out hb)
  have HI1 := Lib.hid (ints_on HI1.out hb)
  have HI2 := Lib.hid hi
  clear hb hi
  go_wp2
  refine HKK.out _ _ (fun _ _ => HS.out) ?_
  refine wpK_one 4 rfl (by kernel_rfl) (fun K hK => ?_)
  have HKK := Lib.hid hK
  clear hK
  go_wp2_with fail
  refine (sameInts_any vs vs _ _ _ _ hvl _ HI1.out HI2.out rfl).mono ?_
  rintro e w13 ⟨rfl, hb⟩
  have HS := Lib.hid (HS.out.trans (hb.mono HS.out.size))
  have HT := Lib.hid (HT.out.on hb)
  have HVA := Lib.hid (HVA.out.on hb)
  have HVB := Lib.hid (HVB.out.on hb)
  have HI := Lib.hid (ints_on HI.out hb)
  have HJ := Lib.hid (ints_on HJ.out hb)
  have HRR := Lib.hid (rows_on HRR.out hb)
  clear hb
  go_wp2
  refine HKK.out _ _ (fun _ _ => HS.out) ?_
  refine wpK_take0 (v := ?_) (a' := ?_) 5 rfl (by kernel_rfl) (by kernel_rfl) (by kernel_rfl) (by kernel_rfl) (fun _ _ _ h => h) ?_ ?_ ?_
  rotate_left 2
  · refine .inl ⟨by kernel_rfl, ?_⟩; intro wS hS; clear hS; go_simp; with_reducible rfl
  · go_simp; with_reducible rfl
  refine wpK_take (v := .agg #[.int .i64 k, .int .i64 n, .string s, .slice A l.length c]) (a' := ?_) 6 rfl (by kernel_rfl) (by kernel_rfl) (by kernel_rfl) (by kernel_rfl) (by kernel_rfl) (fun _ _ _ h => h) HS.out ?_ ?_ ?_
  rotate_left 1
  · exact yieldsIf_load_mid (by kernel_rfl) 25 (.tmp 2) rfl (w.heap.size) 0 (by go_simp) _ _ (fun wS hS => range_row (HX0.out _ hS)) Try.underlying25 rfl (tySize _ _ _ _)
  · go_simp; with_reducible rfl
  refine wpK_take0 (v := ?_) (a' := ?_) 7 rfl (by kernel_rfl) (by kernel_rfl) (by kernel_rfl) (by kernel_rfl) (fun _ _ _ h => h) ?_ ?_ ?_
  rotate_left 2
  · refine .inl ⟨by kernel_rfl, ?_⟩; intro wS hS; clear hS; go_simp; with_reducible rfl
  · go_simp; with_reducible rfl
  refine wpK_take (v := .agg #[.int .i64 k, .int .i64 n, .string s, .slice A l.length c]) (a' := ?_) 9 rfl (by kernel_rfl) (by kernel_rfl) (by kernel_rfl) (by kernel_rfl) (by kernel_rfl) (fun _ _ _ h => h) HS.out ?_ ?_ ?_
  rotate_left 1
  · exact yieldsIf_load_mid (by kernel_rfl) 25 (.tmp 2) rfl (w.heap.size) 0 (by go_simp) _ _ (fun wS hS => range_row (HX0.out _ hS)) Try.underlying25 rfl (tySize _ _ _ _)
  · go_simp; with_reducible rfl
  refine wpK_take0 (v := ?_) (a' := ?_) 10 rfl (by kernel_rfl) (by kernel_rfl) (by kernel_rfl) (by kernel_rfl) (fun _ _ _ h => h) ?_ ?_ ?_
  rotate_left 2
  · refine .inl ⟨by kernel_rfl, ?_⟩; intro wS hS; clear hS; go_simp; with_reducible rfl
  · go_simp; with_reducible rfl
  refine wpK_one 8 rfl (by kernel_rfl) (fun K hK => ?_)
  have HKK := Lib.hid hK
  clear hK
  go_wp2_with fail
  refine (put_val HT.out HRR.out hls).mono ?_
  rintro e w14 ⟨v14, rfl, hv, hb⟩
  have HS := Lib.hid (HS.out.trans (hb.mono HS.out.size))
  have HT := Lib.hid (HT.out.on hb)
  have HVA := Lib.hid (HVA.out.on hb)
  have HVB := Lib.hid (HVB.out.on hb)
  have HI := Lib.hid (ints_on HI.out hb)
  have HJ := Lib.hid (ints_on HJ.out hb)
  have HRR := Lib.hid (rows_on HRR.out hb)
  have HV14 := Lib.hid hv
  clear hb hv
  go_wp2
  refine HKK.out _ _ (fun _ _ => HS.out) ?_
  refine wpK_one 11 rfl (by kernel_rfl) (fun K hK => ?_)
  have HKK := Lib.hid hK
  clear hK
  go_wp2_with fail
  refine (rput_val HT.out HRR.out hls).mono ?_
  rw [← HPE.out]; rintro e w15 ⟨v15, rfl, hv, hb⟩
  have HS := Lib.hid (HS.out.trans (hb.mono HS.out.size))
  have HT := Lib.hid (HT.out.on hb)
  have HVA := Lib.hid (HVA.out.on hb)
  have HVB := Lib.hid (HVB.out.on hb)
  have HI := Lib.hid (ints_on HI.out hb)
  have HJ := Lib.hid (ints_on HJ.out hb)
  have HRR := Lib.hid (rows_on HRR.out hb)
  have HV14 := Lib.hid (HV14.out.on hb)
  have HV15 := Lib.hid hv
  clear hb hv
  go_wp2
  refine HKK.out _ _ (fun _ _ => HS.out) ?_
  refine wpK_one 12 rfl (by kernel_rfl) (fun K hK => ?_)
  have HKK := Lib.hid hK
  clear hK
  go_wp2_with fail
  refine (r8self HV14.out HV15.out).mono ?_
  rintro e w16 ⟨rfl, hb⟩
  have HS := Lib.hid (HS.out.trans (hb.mono HS.out.size))
  have HT := Lib.hid (HT.out.on hb)
  have HVA := Lib.hid (HVA.out.on hb)
  have HVB := Lib.hid (HVB.out.on hb)
  have HI := Lib.hid (ints_on HI.out hb)
  have HJ := Lib.hid (ints_on HJ.out hb)
  have HRR := Lib.hid (rows_on HRR.out hb)
  clear hb
  go_wp2
  refine HKK.out _ _ (fun _ _ => HS.out) ?_
  refine wpK_take0 (v := ?_) (a' := ?_) 13 rfl (by kernel_rfl) (by kernel_rfl) (by kernel_rfl) (by kernel_rfl) (fun _ _ _ h => h) ?_ ?_ ?_
  rotate_left 2
  · refine .inl ⟨by kernel_rfl, ?_⟩; intro wS hS; clear hS; go_simp; with_reducible rfl
  · go_simp; with_reducible rfl
  refine wpK_take0 (v := ?_) (a' := ?_) 14 rfl (by kernel_rfl) (by kernel_rfl) (by kernel_rfl) (by kernel_rfl) (fun _ _ _ h => h) ?_ ?_ ?_
  rotate_left 2
  · refine .inl ⟨by kernel_rfl, ?_⟩; intro wS hS; clear hS; go_simp; with_reducible rfl
  · go_simp; with_reducible rfl
  refine wpK_take (v := .agg #[.int .i64 CT.kind, .int .i64 CT.num, .string CT.name, .slice A6 CT.args.length c6]) (a' := ?_) 15 rfl (by kernel_rfl) (by kernel_rfl) (by kernel_rfl) (by kernel_rfl) (by kernel_rfl) (fun _ _ _ h => h) HS.out ?_ ?_ ?_
  rotate_left 1
  · exact yieldsIf_load_mid (by kernel_rfl) 25 (.tmp 5) rfl (w3.heap.size) 0 (by go_simp) _ _ (fun wS hS => range_row (HX5.out _ hS)) Try.underlying25 rfl (tySize _ _ _ _)
  · go_simp; with_reducible rfl
  refine wpK_take (v := .agg #[.int .i64 CT.kind, .int .i64 CT.num, .string CT.name, .slice A8 CT.args.length c8]) (a' := ?_) 16 rfl (by kernel_rfl) (by kernel_rfl) (by kernel_rfl) (by kernel_rfl) (by kernel_rfl) (fun _ _ _ h => h) HS.out ?_ ?_ ?_
  rotate_left 1
  · exact yieldsIf_load_mid (by kernel_rfl) 25 (.tmp 7) rfl (w5.heap.size) 0 (by go_simp) _ _ (fun wS hS => range_row (HX7.out _ hS)) Try.underlying25 rfl (tySize _ _ _ _)
  · go_simp; with_reducible rfl
  refine wpK_one 17 rfl (by kernel_rfl) (fun K hK => ?_)
  have HKK := Lib.hid hK
  clear hK
  go_wp2_with fail
  refine (r8self HVA.out HVB.out).mono ?_
  rintro e w17 ⟨rfl, hb⟩
  have HS := Lib.hid (HS.out.trans (hb.mono HS.out.size))
  have HT := Lib.hid (HT.out.on hb)
  have HVA := Lib.hid (HVA.out.on hb)
  have HVB := Lib.hid (HVB.out.on hb)
  have HI := Lib.hid (ints_on HI.out hb)
  have HJ := Lib.hid (ints_on HJ.out hb)
  have HRR := Lib.hid (rows_on HRR.out hb)
  clear hb
  go_wp2
  refine HKK.out _ _ (fun _ _ => HS.out) ?_
  refine wpK_take0 (v := ?_) (a' := ?_) 18 rfl (by kernel_rfl) (by kernel_rfl) (by kernel_rfl) (by kernel_rfl) (fun _ _ _ h => h) ?_ ?_ ?_
  rotate_left 2
  · refine .inl ⟨by kernel_rfl, ?_⟩; intro wS hS; clear hS; go_simp; with_reducible rfl
  · go_simp; with_reducible rfl
  refine wpK_take0 (v := ?_) (a' := ?_) 19 rfl (by kernel_rfl) (by kernel_rfl) (by kernel_rfl) (by kernel_rfl) (fun _ _ _ h => h) ?_ ?_ ?_
  rotate_left 2
  · refine .inl ⟨by kernel_rfl, ?_⟩; intro wS hS; clear hS; go_simp; with_reducible rfl
  · go_simp; with_reducible rfl
  refine wpK_take0 (v := ?_) (a' := ?_) 20 rfl (by kernel_rfl) (by kernel_rfl) (by kernel_rfl) (by kernel_rfl) (fun _ _ _ h => h) ?_ ?_ ?_
  rotate_left 2
  · refine .inl ⟨by kernel_rfl, ?_⟩; intro wS hS; clear hS; go_simp; with_reducible rfl
  · go_simp; with_reducible rfl
  refine wpK_take0 (v := ?_) (a' := ?_) 21 rfl (by kernel_rfl) (by kernel_rfl) (by kernel_rfl) (by kernel_rfl) (fun _ _ _ h => h) ?_ ?_ ?_
  rotate_left 2
  · refine .inl ⟨by kernel_rfl, ?_⟩; intro wS hS; clear hS; go_simp; with_reducible rfl
  · go_simp; with_reducible rfl
  refine wpK_one 22 rfl (by kernel_rfl) (fun K hK => ?_)
  have HKK := Lib.hid hK
  clear hK
  go_wp2_with fail
  refine (sameInts_any vs vs _ _ _ _ hvl _ HI.out HJ.out rfl).mono ?_
  rintro e w18 ⟨rfl, hb⟩
  have HS := Lib.hid (HS.out.trans (hb.mono HS.out.size))
  clear hb
  go_wp2
  refine HKK.out _ _ (fun _ _ => HS.out) ?_
  refine wpK_take0 (v := ?_) (a' := ?_) 23 rfl (by kernel_rfl) (by kernel_rfl) (by kernel_rfl) (by kernel_rfl) (fun _ _ _ h => h) ?_ ?_ ?_
  rotate_left 2
  · refine .inl ⟨by kernel_rfl, ?_⟩; intro wS hS; clear hS; go_simp; with_reducible rfl
  · go_simp; with_reducible rfl
  refine wpK_take0 (v := ?_) (a' := ?_) 24 rfl (by kernel_rfl) (by kernel_rfl) (by kernel_rfl) (by kernel_rfl) (fun _ _ _ h => h) ?_ ?_ ?_
  rotate_left 2
  · refine .inl ⟨by kernel_rfl, ?_⟩; intro wS hS; clear hS; go_simp; with_reducible rfl
  · go_simp; with_reducible rfl
  refine wpK_one 25 rfl (by kernel_rfl) (fun K hK => ?_)
  have HKK := Lib.hid hK
  clear hK
  go_wp2_with fail
  refine (knows_any _).mono ?_
  rintro e w19 ⟨rfl, hb⟩
  have HS := Lib.hid (HS.out.trans (hb.mono HS.out.size))
  clear hb
  go_wp2
  refine HKK.out _ _ (fun _ _ => HS.out) ?_
  refine wpK_take0 (v := ?_) (a' := ?_) 26 rfl (by kernel_rfl) (by kernel_rfl) (by kernel_rfl) (by kernel_rfl) (fun _ _ _ h => h) ?_ ?_ ?_
  rotate_left 2
  · refine .inl ⟨by kernel_rfl, ?_⟩; intro wS hS; clear hS; go_simp; with_reducible rfl
  · go_simp; with_reducible rfl
  refine wpK_take0 (v := ?_) (a' := ?_) 27 rfl (by kernel_rfl) (by kernel_rfl) (by kernel_rfl) (by kernel_rfl) (fun _ _ _ h => h) ?_ ?_ ?_
  rotate_left 2
  · refine .inl ⟨by kernel_rfl, ?_⟩; intro wS hS; clear hS; go_simp; with_reducible rfl
  · go_simp; with_reducible rfl
  refine wpK_end (by kernel_rfl) ?_ _
  go_wp2
  go_ret
  exact ⟨rfl, below_then HB.out HS.out⟩
end Go.Proofs.Ytgdclchpccbifaa
