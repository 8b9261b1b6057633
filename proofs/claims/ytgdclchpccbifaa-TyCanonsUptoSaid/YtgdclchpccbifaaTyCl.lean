/-
  THE LAW TyCanons.
-/
import Derived.Test.YtgdclchpccbifaaTyPt
import Derived.Test.YtgdclchpccbifaaTyCa
namespace Go.Proofs.Ytgdclchpccbifaa
open Go.ChangeShapes Go.WideShapes Go.ChangeAt Go.RowKit
set_option linter.unusedVariables false
mutual
theorem ok_num : ∀ (d : Nat) {w : World} {S : Nat → Prop} (t : Tt) (cs : List Value), TyRd w S d t cs → ∀ u ∈ pre t, -9223372036854775808 ≤ u.num ∧ u.num ≤ 9223372036854775807
  | 0, _, _, _, _, h => h.elim
  | d + 1, w, S, .mk k n s l, cs, h => by
    obtain ⟨A, c, _, h2, _, _, h3⟩ := h
    intro u hu
    rw [pre, List.mem_cons] at hu
    rcases hu with rfl | hu
    · exact h2
    · exact ok_numL d l (fun t ht => by
        obtain ⟨i, hi, rfl⟩ := List.getElem_of_mem ht
        obtain ⟨b, o, cs', _, _, _, hd⟩ := h3 i _ (List.getElem?_eq_getElem hi)
        exact ⟨cs', hd⟩) u hu
theorem ok_numL : ∀ (d : Nat) {w : World} {S : Nat → Prop} (l : List Tt), (∀ t ∈ l, ∃ cs, TyRd w S d t cs) → ∀ u ∈ preL l, -9223372036854775808 ≤ u.num ∧ u.num ≤ 9223372036854775807
  | _, _, _, [], _ => by simp [preL]
  | d, w, S, t :: l, h => by
    intro u hu
    rw [preL, List.mem_append] at hu
    rcases hu with hu | hu
    · obtain ⟨cs, hd⟩ := h t (List.mem_cons_self ..)
      exact ok_num d t cs hd u hu
    · exact ok_numL d l (fun t' ht => h t' (List.mem_cons_of_mem _ ht)) u hu
end
theorem vars_in {w : World} {a : Tt} {x : Value} (h : Val w a x) : In64 (varsT a) := by
  obtain ⟨A, c, rfl, d, hd⟩ := h
  intro y hy
  obtain hm | ⟨u, hu, _, rfl⟩ := (vscan_iff _ _).1 hy
  · cases hm
  · exact ok_num d _ _ hd u hu
theorem backL_take {vs : List Int} {j : Nat} (h : j < vs.length) : backL (vs.take (j + 1)) = backL (vs.take j) ++ [.mk 1 vs[j] ⟨#[]⟩ []] := by
  unfold backL
  exact take_map _ _ _ h
theorem backL_len (vs : List Int) : (backL vs).length = vs.length := by simp [backL]
theorem wpList_load_row_yes {P : Program} {ops : Array Oper} {rest : List Oper} {o : Oper} {a : Act} {w : World} {Q : Exit → Act → World → Prop} (hgd : Region.wanted o (yielded ops a.tmps) = true) (ty : TypeId) (x : Operand) (ho : o.op = .load ty x)
    (g : Nat) (hx : a.eval x = .pointer (some ⟨g, 0, none⟩)) (t : TypeId) (cs : Array Value) (fr : Nat × Nat) (d : TypeDesc) (hg : w.heap[g]? = some (.cells cs t fr))
    (hu : P.underlying ty = some d) (hd : (match d with | .struct _ | .array _ _ => true | _ => false) = true) (hi : (P.info? ty).map (·.size) = some cs.size)
    (h : wpList P ops Q rest (a.put o.dst (.agg cs)) w) : wpList P ops Q (o :: rest) a w := by
  unfold wpList
  rw [if_pos hgd]
  exact .inl (wp_load_row ty x ho g hx t cs fr d hg hu hd hi h)
theorem canon_again {w : World} {C : Tt} {x : Value} {n : Nat} (ha : Val w C x) (hsz : (pre C).length ≤ 1048576) (hc : canonT C = C) (hv : varsT C = (List.range n).map fun (i : Nat) => (i : Int)) : Calls Try.prog 23 #[x] w fun e w' => ∃ v A c, e = .returned (.tuple #[v, .slice A n c]) ∧ Val w' C v ∧ IntsAt w' w'.heap.size A ((List.range n).map fun (i : Nat) => (i : Int)) ∧ True ∧ True ∧ Below w.heap.size w w' := by
  refine (canon_val ha hsz).mono ?_
  rintro e w' ⟨v, A, c, rfl, h1, h2, _, _, hb⟩
  rw [hc] at h1
  rw [hv] at h2
  exact ⟨v, A, c, by rw [hv, List.length_map, List.length_range], h1, h2, trivial, trivial, hb⟩
theorem canon_len (t : Tt) : (pre (canonT t)).length = (pre t).length := by rw [canon_mapN, pre_mapN, List.length_map]
theorem range_at {m i : Nat} (h : i < ((List.range m).map fun (i : Nat) => (i : Int)).length) : ((List.range m).map fun (i : Nat) => (i : Int))[i] = i := by simp
set_option maxRecDepth 100000 in
set_option maxHeartbeats 16000000 in
theorem canons_run (k n : Int) (s : ByteArray) (l : List Tt) (A : Option Addr) (c : Nat) (k' n' : Int) (s' : ByteArray) (l' : List Tt) (A' : Option Addr) (c' : Nat) (hsz : (pre (.mk k n s l)).length ≤ 1048576) (hsz' : (pre (.mk k' n' s' l')).length ≤ 1048576) (w : World)
    (h : Val w (.mk k n s l) (.agg #[.int .i64 k, .int .i64 n, .string s, .slice A l.length c])) (h' : Val w (.mk k' n' s' l') (.agg #[.int .i64 k', .int .i64 n', .string s', .slice A' l'.length c'])) : Calls Try.prog 7 #[.agg #[.int .i64 k, .int .i64 n, .string s, .slice A l.length c], .agg #[.int .i64 k', .int .i64 n', .string s', .slice A' l'.length c']] w fun e w' => e = .returned (.bool true) ∧ Below w.heap.size w w' := by
  obtain ⟨w0, hw0⟩ : ∃ w0, w0 = (w.alloc (.cells #[.int .i64 k, .int .i64 n, .string s, .slice A l.length c] 25)).alloc (.cells #[.int .i64 k', .int .i64 n', .string s', .slice A' l'.length c'] 25) := ⟨_, rfl⟩
  have hb0 : Below w.heap.size w w0 := by rw [hw0]; exact (below_new _ _).alloc (by simp) _
  have hg1 : w0.heap[w.heap.size]? = some (.cells #[.int .i64 k, .int .i64 n, .string s, .slice A l.length c] 25 (0, 0)) := by rw [hw0]; exact (Below.heap_alloc _ _ _ (by rw [World.size_alloc]; omega)).trans (heap_alloc_new _ _)
  have hg2 : w0.heap[w.heap.size + 1]? = some (.cells #[.int .i64 k', .int .i64 n', .string s', .slice A' l'.length c'] 25 (0, 0)) := by rw [hw0]; have := heap_alloc_new (w.alloc (.cells #[.int .i64 k, .int .i64 n, .string s, .slice A l.length c] 25)) (.cells #[.int .i64 k', .int .i64 n', .string s', .slice A' l'.length c'] 25); rwa [World.size_alloc] at this
  have HIN := Lib.hid (vars_in h)
  have HB := Lib.hid hb0
  have HG0 := Lib.hid hg1
  have HG1 := Lib.hid hg2
  have HT := Lib.hid (h.on hb0)
  have HT2 := Lib.hid (h'.on hb0)
  have HW0 := Lib.hid hw0
  clear hb0 hg1 hg2 h h' hw0
  cases hf : formedT (.mk k n s l)
  · have HF := Lib.hid hf
    clear hf
    go_enter Try.func7, Try.ntmps7
    go_upto_region 1 with fail
    rw [← HW0.out]
    go_wp2_with (refine wpList_load_row_yes (by kernel_rfl) 25 _ rfl (w.heap.size) rfl 25 #[.int .i64 k, .int .i64 n, .string s, .slice A l.length c] (0, 0) _ HG0.out Try.underlying25 rfl (tySizeA _ _ _ _) ?_)
    refine (formed_val HT.out hsz).mono ?_
    rw [HF.out]
    rintro e w1 ⟨rfl, hb⟩
    have HT := Lib.hid (HT.out.on hb)
    have HT2 := Lib.hid (HT2.out.on hb)
    have HG0 := Lib.hid (row_on HG0.out hb)
    have HG1 := Lib.hid (row_on HG1.out hb)
    have HB := Lib.hid (below_then HB.out hb)
    clear hb
    go_wp2_with (go_at_call 16; refine (knows_any _).mono ?_; rintro e w9 ⟨rfl, hb9⟩; have HB9 := Lib.hid hb9; clear hb9)
    go_ret
    exact ⟨rfl, below_then HB.out HB9.out⟩
  have HF := Lib.hid hf
  cases hf2 : formedT (.mk k' n' s' l')
  · have HF2 := Lib.hid hf2
    clear hf hf2
    go_enter Try.func7, Try.ntmps7
    go_upto_region 1 with fail
    rw [← HW0.out]
    go_wp2_with (refine wpList_load_row_yes (by kernel_rfl) 25 _ rfl (w.heap.size) rfl 25 #[.int .i64 k, .int .i64 n, .string s, .slice A l.length c] (0, 0) _ HG0.out Try.underlying25 rfl (tySizeA _ _ _ _) ?_)
    refine (formed_val HT.out hsz).mono ?_
    rw [HF.out]
    rintro e w1 ⟨rfl, hb⟩
    have HT := Lib.hid (HT.out.on hb)
    have HT2 := Lib.hid (HT2.out.on hb)
    have HG0 := Lib.hid (row_on HG0.out hb)
    have HG1 := Lib.hid (row_on HG1.out hb)
    have HB := Lib.hid (below_then HB.out hb)
    clear hb
    go_wp2_with (refine wpList_load_row_yes (by kernel_rfl) 25 _ rfl (w.heap.size + 1) rfl 25 #[.int .i64 k', .int .i64 n', .string s', .slice A' l'.length c'] (0, 0) _ HG1.out Try.underlying25 rfl (tySizeA _ _ _ _) ?_)
    refine (formed_val HT2.out hsz').mono ?_
    rw [HF2.out]
    rintro e w2 ⟨rfl, hb⟩
    have HT := Lib.hid (HT.out.on hb)
    have HT2 := Lib.hid (HT2.out.on hb)
    have HG0 := Lib.hid (row_on HG0.out hb)
    have HG1 := Lib.hid (row_on HG1.out hb)
    have HB := Lib.hid (below_then HB.out hb)
    clear hb
    go_wp2_with (go_at_call 16; refine (knows_any _).mono ?_; rintro e w9 ⟨rfl, hb9⟩; have HB9 := Lib.hid hb9; clear hb9)
    go_ret
    exact ⟨rfl, below_then HB.out HB9.out⟩
  have HF2 := Lib.hid hf2
  have HCB := Lib.hid (canon_back hf)
  clear hf hf2
  have HTT := Lib.hid HT.out
  obtain ⟨T, hT⟩ : ∃ T, T = Tt.mk k n s l := ⟨_, rfl⟩
  obtain ⟨U, hU⟩ : ∃ U, U = Tt.mk k' n' s' l' := ⟨_, rfl⟩
  have HAR : Hid (∀ W : World, Val W T (.agg #[.int .i64 k, .int .i64 n, .string s, .slice A l.length c]) → Val W U (.agg #[.int .i64 k', .int .i64 n', .string s', .slice A' l'.length c']) → Calls Try.prog 30 #[.agg #[.int .i64 k, .int .i64 n, .string s, .slice A l.length c], .agg #[.int .i64 k', .int .i64 n', .string s', .slice A' l'.length c']] W fun e w' => ∃ v, e = .returned (.bool v) ∧ (v = true ↔ Alike (pre T) (pre U)) ∧ Below W.heap.size W w') := Lib.hid fun W h1 h2 => by
    rw [hT] at h1 ⊢
    rw [hU] at h2 ⊢
    exact alike_run k n s l A c k' n' s' l' A' c' hsz hsz' W h1 h2
  rw [← hT] at HF HT hsz HCB HIN
  rw [← hU] at HF2 HT2 hsz'
  clear hT hU HTT
  go_enter Try.func7, Try.ntmps7
  go_upto_region 1 with fail
  rw [← HW0.out]
  go_wp2_with (refine wpList_load_row_yes (by kernel_rfl) 25 _ rfl (w.heap.size) rfl 25 #[.int .i64 k, .int .i64 n, .string s, .slice A l.length c] (0, 0) _ HG0.out Try.underlying25 rfl (tySizeA _ _ _ _) ?_)
  refine (formed_val HT.out hsz).mono ?_
  rw [HF.out]
  rintro e w1 ⟨rfl, hb⟩
  have HT := Lib.hid (HT.out.on hb)
  have HT2 := Lib.hid (HT2.out.on hb)
  have HG0 := Lib.hid (row_on HG0.out hb)
  have HG1 := Lib.hid (row_on HG1.out hb)
  have HB := Lib.hid (below_then HB.out hb)
  clear hb
  go_wp2_with (refine wpList_load_row_yes (by kernel_rfl) 25 _ rfl (w.heap.size + 1) rfl 25 #[.int .i64 k', .int .i64 n', .string s', .slice A' l'.length c'] (0, 0) _ HG1.out Try.underlying25 rfl (tySizeA _ _ _ _) ?_)
  refine (formed_val HT2.out hsz').mono ?_
  rw [HF2.out]
  rintro e w2 ⟨rfl, hb⟩
  have HT := Lib.hid (HT.out.on hb)
  have HT2 := Lib.hid (HT2.out.on hb)
  have HG0 := Lib.hid (row_on HG0.out hb)
  have HG1 := Lib.hid (row_on HG1.out hb)
  have HB := Lib.hid (below_then HB.out hb)
  clear hb
  go_wp2_with (refine wpList_load_row_yes (by kernel_rfl) 25 _ rfl (w.heap.size) rfl 25 #[.int .i64 k, .int .i64 n, .string s, .slice A l.length c] (0, 0) _ HG0.out Try.underlying25 rfl (tySizeA _ _ _ _) ?_)
  refine (canon_val HT.out hsz).mono ?_
  rintro e w3 ⟨va, A5, c5, rfl, ⟨A6, c6, rfl, hd6⟩, hi, _, _, hb⟩
  have hva : Val w3 (canonT T) (.agg #[.int .i64 (canonT T).kind, .int .i64 (canonT T).num, .string (canonT T).name, .slice A6 (canonT T).args.length c6]) := ⟨A6, c6, rfl, hd6⟩
  clear hd6
  have HCC := Lib.hid (canon_canon T)
  have HCV := Lib.hid (canon_vars T)
  have HCL := Lib.hid (Nat.le_trans (Nat.le_of_eq (canon_len T)) hsz)
  have HCA := Lib.hid (canon_alike T U)
  have HLV := Lib.hid (@canon_vars_len T U)
  have hvl := Nat.le_trans (vars_le T) hsz
  have hvl' := Nat.le_trans (vars_le U) hsz'
  have HVV : Hid (∀ (W : World), Val W T (.agg #[.int .i64 k, .int .i64 n, .string s, .slice A l.length c]) → Calls Try.prog 26 #[.agg #[.int .i64 k, .int .i64 n, .string s, .slice A l.length c]] W (IntsMade W (varsT T))) := Lib.hid fun W h => vars_val h hsz
  generalize canonT T = C at *
  generalize varsT T = vs at *
  obtain ⟨w4, hw4⟩ : ∃ w4, w4 = w3.alloc (.cells #[.int .i64 C.kind, .int .i64 C.num, .string C.name, .slice A6 C.args.length c6] 25) := ⟨_, rfl⟩
  have hb4 : Below w3.heap.size w3 w4 := by rw [hw4]; exact below_new _ _
  have HG5 : Hid (w4.heap[w3.heap.size]? = some (.cells #[.int .i64 C.kind, .int .i64 C.num, .string C.name, .slice A6 C.args.length c6] 25 (0, 0))) := Lib.hid (by rw [hw4]; exact heap_alloc_new _ _)
  have hb5 := below_then hb hb4
  have HT := Lib.hid (HT.out.on hb5)
  have HT2 := Lib.hid (HT2.out.on hb5)
  have HG0 := Lib.hid (row_on HG0.out hb5)
  have HG1 := Lib.hid (row_on HG1.out hb5)
  have HB := Lib.hid (below_then HB.out hb5)
  have HVA := Lib.hid (hva.on hb4)
  have HI := Lib.hid (ints_on hi hb4)
  have HW4 := Lib.hid hw4
  clear hb hb4 hb5 hva hi hw4
  go_upto_region 4 with fail
  rw [← HW4.out]
  clear HW4
  go_wp2_with (refine wpList_load_row_yes (by kernel_rfl) 25 _ rfl (w.heap.size + 1) rfl 25 #[.int .i64 k', .int .i64 n', .string s', .slice A' l'.length c'] (0, 0) _ HG1.out Try.underlying25 rfl (tySizeA _ _ _ _) ?_)
  refine (canon_val HT2.out hsz').mono ?_
  rintro e w5 ⟨va, A7, c7, rfl, ⟨A8, c8, rfl, hd6⟩, hi, _, _, hb⟩
  have hva : Val w5 (canonT U) (.agg #[.int .i64 (canonT U).kind, .int .i64 (canonT U).num, .string (canonT U).name, .slice A8 (canonT U).args.length c8]) := ⟨A8, c8, rfl, hd6⟩
  clear hd6
  generalize canonT U = D at *
  generalize varsT U = us at *
  obtain ⟨w6, hw4⟩ : ∃ w4, w4 = w5.alloc (.cells #[.int .i64 D.kind, .int .i64 D.num, .string D.name, .slice A8 D.args.length c8] 25) := ⟨_, rfl⟩
  have hb4 : Below w5.heap.size w5 w6 := by rw [hw4]; exact below_new _ _
  have HG7 : Hid (w6.heap[w5.heap.size]? = some (.cells #[.int .i64 D.kind, .int .i64 D.num, .string D.name, .slice A8 D.args.length c8] 25 (0, 0))) := Lib.hid (by rw [hw4]; exact heap_alloc_new _ _)
  have hb5 := below_then hb hb4
  have HT := Lib.hid (HT.out.on hb5)
  have HT2 := Lib.hid (HT2.out.on hb5)
  have HG0 := Lib.hid (row_on HG0.out hb5)
  have HG1 := Lib.hid (row_on HG1.out hb5)
  have HB := Lib.hid (below_then HB.out hb5)
  have HVA := Lib.hid (HVA.out.on hb5)
  have HG5 := Lib.hid (row_on HG5.out hb5)
  have HI := Lib.hid (ints_on HI.out hb5)
  have HVB := Lib.hid (hva.on hb4)
  have HJ := Lib.hid (ints_on hi hb4)
  have HW4 := Lib.hid hw4
  clear hb hb4 hb5 hva hi hw4
  go_upto_region 5 with fail
  rw [← HW4.out]
  clear HW4
  go_wp2_with (refine wpList_load_row_yes (by kernel_rfl) 25 _ rfl (w3.heap.size) rfl 25 #[.int .i64 C.kind, .int .i64 C.num, .string C.name, .slice A6 C.args.length c6] (0, 0) _ HG5.out Try.underlying25 rfl (tySizeA _ _ _ _) ?_)
  refine (canon_again HVA.out HCL.out HCC.out HCV.out).mono ?_
  rintro e w7 ⟨va, A9, c9, rfl, ⟨A10, c10, rfl, hd6⟩, hi, _, _, hb⟩
  have hva : Val w7 C (.agg #[.int .i64 C.kind, .int .i64 C.num, .string C.name, .slice A10 C.args.length c10]) := ⟨A10, c10, rfl, hd6⟩
  clear hd6
  obtain ⟨wf, hw4⟩ : ∃ w4, w4 = w7.alloc (.cells #[.int .i64 C.kind, .int .i64 C.num, .string C.name, .slice A10 C.args.length c10] 25) := ⟨_, rfl⟩
  have hb4 : Below w7.heap.size w7 wf := by rw [hw4]; exact below_new _ _
  have HG9 : Hid (wf.heap[w7.heap.size]? = some (.cells #[.int .i64 C.kind, .int .i64 C.num, .string C.name, .slice A10 C.args.length c10] 25 (0, 0))) := Lib.hid (by rw [hw4]; exact heap_alloc_new _ _)
  have hb5 := below_then hb hb4
  have HT := Lib.hid (HT.out.on hb5)
  have HT2 := Lib.hid (HT2.out.on hb5)
  have HG0 := Lib.hid (row_on HG0.out hb5)
  have HG1 := Lib.hid (row_on HG1.out hb5)
  have HB := Lib.hid (below_then HB.out hb5)
  have HVA := Lib.hid (HVA.out.on hb5)
  have HG5 := Lib.hid (row_on HG5.out hb5)
  have HI := Lib.hid (ints_on HI.out hb5)
  have HVB := Lib.hid (HVB.out.on hb5)
  have HG7 := Lib.hid (row_on HG7.out hb5)
  have HJ := Lib.hid (ints_on HJ.out hb5)
  have HVE := Lib.hid (hva.on hb4)
  have HZ := Lib.hid (ints_on hi hb4)
  have HW4 := Lib.hid hw4
  clear hb hb4 hb5 hva hi hw4
  go_upto_region 6 with fail
  rw [← HW4.out]
  clear HW4
  obtain ⟨i0, hi, hi0, hi1, hi2⟩ := info_parts tyInfo
  have HI0 := Lib.hid (And.intro hi (And.intro hi0 (And.intro hi1 hi2)))
  clear hi hi0 hi1 hi2
  go_wp2
  go_loopw [11, 12] (fun v z wr => ∃ (j : Nat), j ≤ vs.length ∧ z = .int .i64 j ∧ Own TyR 4 wr wf.heap.size 25 v (backL (vs.take j)) ∧ Below wf.heap.size wf wr) (fun _ z _ => vs.length - (intOf z).toNat)
  case atStart => exact ⟨0, by omega, rfl, Own.nil _ _ _ _ _, Below.refl _ _⟩
  case round =>
    obtain ⟨j, hj, rfl, hown, hb⟩ := hrel
    have hz := hb.size
    have hlj : (backL (vs.take j)).length = j := by rw [backL_len, List.length_take]; omega
    obtain ⟨A11, c11, hv, _⟩ := hown.form
    rw [hlj] at hv
    subst hv
    by_cases hlt : j < vs.length
    · obtain ⟨ad, rfl, hbl, hc⟩ := HI.out.at_ hlt
      have HX : Hid (wr.cell? (ad.add j) = some (.int .i64 vs[j])) := Lib.hid ((hb.cell (by rw [block_add]; exact hbl)).trans hc)
      have HXB := Lib.hid (HIN.out.at_ hlt)
      have HBT := Lib.hid (backL_take hlt)
      clear hc
      generalize vs[j] = x at *
      obtain ⟨rows, hrows⟩ := hown.below (below_new wr (.cells #[.int .i64 1, .int .i64 x, .string ⟨#[]⟩, .slice none 0 0] 25))
      have hlen := hrows.2.2.1
      rw [hlj] at hlen
      have HLJ := Lib.hid hlj
      have HRO := Lib.hid hrows
      have HLEN := Lib.hid hlen
      have HOB := Lib.hid (And.intro hown hb)
      clear hown hb hrows hlen hlj
      have hcell := HX.out
      go_wp2_with (at_builtin; refine wpList_append_own_at _ rfl (.tmp 44) (.tmp 50) 23 rfl (wf.heap.size) 25 i0 (.agg #[.int .i64 0, .int .i64 0, .string ⟨#[]⟩, .slice none 0 0]) 4 56 Try.underlying23 HI0.out.1 HI0.out.2.1 HI0.out.2.2.1 HI0.out.2.2.2 rfl (by decide) (.slice A11 j c11) j rows.flatten rfl HLEN.out ⟨wr.heap.size, 0, none⟩ 1 1 [.int .i64 1, .int .i64 x, .string ⟨#[]⟩, .slice none 0 0] rfl rfl ?c1 ?c2 ?c3 ?c4 ?c5 ?_)
      case c1 => exact new_cells wr [.int .i64 1, .int .i64 x, .string ⟨#[]⟩, .slice none 0 0] 25
      case c2 => simp [Value.oneCell']
      case c3 => unfold maxLen; omega
      case c4 => omega
      case c5 => simp; omega
      intro v' w14 hown2 hgrow _ hv'
      obtain ⟨A14, n14, c14, rfl⟩ := own_slice hown2
      have HO := Lib.hid (And.intro hown2 (And.intro hgrow hv'))
      clear hown2 hgrow hv'
      go_wp2
      go_roundw
      case rel =>
        refine ⟨j + 1, by omega, by go_num, ?_, ?_⟩
        · rw [HBT.out]
          refine own_more (w1 := wr) (u := .mk 1 x ⟨#[]⟩ []) (A := none) (c := 0) (rows := rows) (S := fun _ => False) HRO.out (TyR.mk HXB.out (by simp) (by decide) Rows.nil) (fun b hb => hb.elim) (by rw [HLJ.out]; exact HO.out.1) HO.out.2.1 (by simpa using HO.out.2.2)
        · exact (HOB.out.2.trans ((below_new wr _).mono hz)).grown HO.out.2.1 (by simp; omega) fun k hk => (HRO.out.2.2.1.lt k hk).1
      case measure => simp [intOf]; omega
    obtain rfl : j = vs.length := by omega
    rw [List.take_length] at hown hlj
    rw [← hlj] at hown
    have HBK : Hid (Rows TyR 4 wr (Lt wr.heap.size) A11 (backL vs)) := Lib.hid (hown.rows.more (S' := Lt wr.heap.size) fun b hb => hb.2)
    have HT := Lib.hid (HT.out.on hb)
    have HT2 := Lib.hid (HT2.out.on hb)
    have HG0 := Lib.hid (row_on HG0.out hb)
    have HG1 := Lib.hid (row_on HG1.out hb)
    have HB := Lib.hid (below_then HB.out hb)
    have HVA := Lib.hid (HVA.out.on hb)
    have HG5 := Lib.hid (row_on HG5.out hb)
    have HI := Lib.hid (ints_on HI.out hb)
    have HVB := Lib.hid (HVB.out.on hb)
    have HG7 := Lib.hid (row_on HG7.out hb)
    have HJ := Lib.hid (ints_on HJ.out hb)
    have HVE := Lib.hid (HVE.out.on hb)
    have HG9 := Lib.hid (row_on HG9.out hb)
    have HZ := Lib.hid (ints_on HZ.out hb)
    clear hb
    clear hown hz hlt
    have HX0 : Hid (∀ W', Below wr.heap.size wr W' → W'.heap[w.heap.size]? = some (.cells #[.int .i64 k, .int .i64 n, .string s, .slice A l.length c] 25 (0, 0))) := Lib.hid fun W' h => row_on HG0.out h
    have HX5 : Hid (∀ W', Below wr.heap.size wr W' → W'.heap[w3.heap.size]? = some (.cells #[.int .i64 C.kind, .int .i64 C.num, .string C.name, .slice A6 C.args.length c6] 25 (0, 0))) := Lib.hid fun W' h => row_on HG5.out h
    have HX9 : Hid (∀ W', Below wr.heap.size wr W' → W'.heap[w7.heap.size]? = some (.cells #[.int .i64 C.kind, .int .i64 C.num, .string C.name, .slice A10 C.args.length c10] 25 (0, 0))) := Lib.hid fun W' h => row_on HG9.out h
    have q0 : ((vs.length : Int) != vs.length) = false := by simp
    go_wp2
    refine wp_region_K (fun w' => Below wr.heap.size wr w') (fun j => true) (by kernel_rfl) ?_
    have HS := Lib.hid (below_drew1 (Below.refl wr.heap.size wr))
    have HT := Lib.hid (HT.out.on HS.out)
    have HT2 := Lib.hid (HT2.out.on HS.out)
    have HVA := Lib.hid (HVA.out.on HS.out)
    have HVB := Lib.hid (HVB.out.on HS.out)
    have HVE := Lib.hid (HVE.out.on HS.out)
    have HI := Lib.hid (ints_on HI.out HS.out)
    have HJ := Lib.hid (ints_on HJ.out HS.out)
    have HZ := Lib.hid (ints_on HZ.out HS.out)
    have HBK := Lib.hid (rows_on HBK.out HS.out)
    refine wpK_take (v := .agg #[.int .i64 C.kind, .int .i64 C.num, .string C.name, .slice A10 C.args.length c10]) (a' := ?_) 0 rfl (by kernel_rfl) (by kernel_rfl) (by kernel_rfl) (by kernel_rfl) (by kernel_rfl) (fun _ _ _ h => h) HS.out ?_ ?_ ?_
    rotate_left 1
    · exact yieldsIf_load_mid (by kernel_rfl) 25 (.tmp 9) rfl (w7.heap.size) 0 (by go_simp) _ _ (fun wS hS => range_row (HX9.out _ hS)) Try.underlying25 rfl (tySize _ _ _ _)
    · go_simp; with_reducible rfl
    refine wpK_take (v := .agg #[.int .i64 C.kind, .int .i64 C.num, .string C.name, .slice A6 C.args.length c6]) (a' := ?_) 1 rfl (by kernel_rfl) (by kernel_rfl) (by kernel_rfl) (by kernel_rfl) (by kernel_rfl) (fun _ _ _ h => h) HS.out ?_ ?_ ?_
    rotate_left 1
    · exact yieldsIf_load_mid (by kernel_rfl) 25 (.tmp 5) rfl (w3.heap.size) 0 (by go_simp) _ _ (fun wS hS => range_row (HX5.out _ hS)) Try.underlying25 rfl (tySize _ _ _ _)
    · go_simp; with_reducible rfl
    refine wpK_one 2 rfl (by kernel_rfl) (fun K hK => ?_)
    have HKK := Lib.hid hK
    clear hK
    go_wp2_with fail
    refine (same_self HVE.out HVA.out).mono ?_
    rintro e w21 ⟨rfl, hb⟩
    have HS := Lib.hid (HS.out.trans (hb.mono HS.out.size))
    have HT := Lib.hid (HT.out.on hb)
    have HT2 := Lib.hid (HT2.out.on hb)
    have HVA := Lib.hid (HVA.out.on hb)
    have HVB := Lib.hid (HVB.out.on hb)
    have HVE := Lib.hid (HVE.out.on hb)
    have HI := Lib.hid (ints_on HI.out hb)
    have HJ := Lib.hid (ints_on HJ.out hb)
    have HZ := Lib.hid (ints_on HZ.out hb)
    have HBK := Lib.hid (rows_on HBK.out hb)
    clear hb
    go_wp2
    refine HKK.out _ _ (fun _ _ => HS.out) ?_
    refine wpK_take0 (v := ?_) (a' := ?_) 3 rfl (by kernel_rfl) (by kernel_rfl) (by kernel_rfl) (by kernel_rfl) (fun _ _ _ h => h) ?_ ?_ ?_
    rotate_left 2
    · refine .inl ⟨by kernel_rfl, ?_⟩; intro wS hS; clear hS; go_simp; with_reducible rfl
    · go_simp; with_reducible rfl
    refine wpK_take0 (v := ?_) (a' := ?_) 4 rfl (by kernel_rfl) (by kernel_rfl) (by kernel_rfl) (by kernel_rfl) (fun _ _ _ h => h) ?_ ?_ ?_
    rotate_left 2
    · refine .inl ⟨by kernel_rfl, ?_⟩; intro wS hS; clear hS; go_simp; with_reducible rfl
    · go_simp; with_reducible rfl
    refine wpK_take0 (v := ?_) (a' := ?_) 5 rfl (by kernel_rfl) (by kernel_rfl) (by kernel_rfl) (by kernel_rfl) (fun _ _ _ h => h) ?_ ?_ ?_
    rotate_left 2
    · refine .inl ⟨by kernel_rfl, ?_⟩; intro wS hS; clear hS; go_simp; with_reducible rfl
    · go_simp; with_reducible rfl
    refine wpK_take0 (v := ?_) (a' := ?_) 6 rfl (by kernel_rfl) (by kernel_rfl) (by kernel_rfl) (by kernel_rfl) (fun _ _ _ h => h) ?_ ?_ ?_
    rotate_left 2
    · refine .inl ⟨by kernel_rfl, ?_⟩; intro wS hS; clear hS; go_simp; with_reducible rfl
    · go_simp; with_reducible rfl
    refine wpK_take0 (v := ?_) (a' := ?_) 7 rfl (by kernel_rfl) (by kernel_rfl) (by kernel_rfl) (by kernel_rfl) (fun _ _ _ h => h) ?_ ?_ ?_
    rotate_left 2
    · refine .inl ⟨by kernel_rfl, ?_⟩; intro wS hS; clear hS; go_simp; with_reducible rfl
    · go_simp; with_reducible rfl
    refine wpK_take0 (v := ?_) (a' := ?_) 8 rfl (by kernel_rfl) (by kernel_rfl) (by kernel_rfl) (by kernel_rfl) (fun _ _ _ h => h) ?_ ?_ ?_
    rotate_left 2
    · refine .inl ⟨by kernel_rfl, ?_⟩; intro wS hS; clear hS; go_simp; with_reducible rfl
    · go_simp; with_reducible rfl
    refine wpK_take0 (v := ?_) (a' := ?_) 9 rfl (by kernel_rfl) (by kernel_rfl) (by kernel_rfl) (by kernel_rfl) (fun _ _ _ h => h) ?_ ?_ ?_
    rotate_left 2
    · refine .inl ⟨by kernel_rfl, ?_⟩; intro wS hS; clear hS; go_simp; with_reducible rfl
    · go_simp; with_reducible rfl
    refine wpK_take0 (v := ?_) (a' := ?_) 10 rfl (by kernel_rfl) (by kernel_rfl) (by kernel_rfl) (by kernel_rfl) (fun _ _ _ h => h) ?_ ?_ ?_
    rotate_left 2
    · refine .inl ⟨by kernel_rfl, ?_⟩; intro wS hS; clear hS; go_simp; with_reducible rfl
    · go_simp; with_reducible rfl
    refine wpK_take0 (v := ?_) (a' := ?_) 11 rfl (by kernel_rfl) (by kernel_rfl) (by kernel_rfl) (by kernel_rfl) (fun _ _ _ h => h) ?_ ?_ ?_
    rotate_left 2
    · refine .inl ⟨by kernel_rfl, ?_⟩; intro wS hS; clear hS; go_simp; with_reducible rfl
    · go_simp; with_reducible rfl
    refine wpK_take (v := .agg #[.int .i64 C.kind, .int .i64 C.num, .string C.name, .slice A6 C.args.length c6]) (a' := ?_) 12 rfl (by kernel_rfl) (by kernel_rfl) (by kernel_rfl) (by kernel_rfl) (by kernel_rfl) (fun _ _ _ h => h) HS.out ?_ ?_ ?_
    rotate_left 1
    · exact yieldsIf_load_mid (by kernel_rfl) 25 (.tmp 5) rfl (w3.heap.size) 0 (by go_simp) _ _ (fun wS hS => range_row (HX5.out _ hS)) Try.underlying25 rfl (tySize _ _ _ _)
    · go_simp; with_reducible rfl
    refine wpK_take0 (v := ?_) (a' := ?_) 13 rfl (by kernel_rfl) (by kernel_rfl) (by kernel_rfl) (by kernel_rfl) (fun _ _ _ h => h) ?_ ?_ ?_
    rotate_left 2
    · refine .inl ⟨by kernel_rfl, ?_⟩; intro wS hS; clear hS; go_simp; with_reducible rfl
    · go_simp; with_reducible rfl
    refine wpK_take (v := .agg #[.int .i64 k, .int .i64 n, .string s, .slice A l.length c]) (a' := ?_) 15 rfl (by kernel_rfl) (by kernel_rfl) (by kernel_rfl) (by kernel_rfl) (by kernel_rfl) (fun _ _ _ h => h) HS.out ?_ ?_ ?_
    rotate_left 1
    · exact yieldsIf_load_mid (by kernel_rfl) 25 (.tmp 2) rfl (w.heap.size) 0 (by go_simp) _ _ (fun wS hS => range_row (HX0.out _ hS)) Try.underlying25 rfl (tySize _ _ _ _)
    · go_simp; with_reducible rfl
    refine wpK_one 14 rfl (by kernel_rfl) (fun K hK => ?_)
    have HKK := Lib.hid hK
    clear hK
    go_wp2_with fail
    refine (put_mapped (n := vs.length) (cl := c11) HVA.out HBK.out (backL_len _) hvl).mono ?_
    rw [HCB.out]; rintro e w22 ⟨v22, rfl, hv, hb⟩
    have HS := Lib.hid (HS.out.trans (hb.mono HS.out.size))
    have HT := Lib.hid (HT.out.on hb)
    have HT2 := Lib.hid (HT2.out.on hb)
    have HVA := Lib.hid (HVA.out.on hb)
    have HVB := Lib.hid (HVB.out.on hb)
    have HVE := Lib.hid (HVE.out.on hb)
    have HI := Lib.hid (ints_on HI.out hb)
    have HJ := Lib.hid (ints_on HJ.out hb)
    have HZ := Lib.hid (ints_on HZ.out hb)
    have HBK := Lib.hid (rows_on HBK.out hb)
    have HV := Lib.hid hv
    clear hb hv
    go_wp2
    refine HKK.out _ _ (fun _ _ => HS.out) ?_
    refine wpK_one 16 rfl (by kernel_rfl) (fun K hK => ?_)
    have HKK := Lib.hid hK
    clear hK
    go_wp2_with fail
    refine (same_self HV.out HT.out).mono ?_
    rintro e w23 ⟨rfl, hb⟩
    have HS := Lib.hid (HS.out.trans (hb.mono HS.out.size))
    have HT := Lib.hid (HT.out.on hb)
    have HT2 := Lib.hid (HT2.out.on hb)
    have HVA := Lib.hid (HVA.out.on hb)
    have HVB := Lib.hid (HVB.out.on hb)
    have HVE := Lib.hid (HVE.out.on hb)
    have HI := Lib.hid (ints_on HI.out hb)
    have HJ := Lib.hid (ints_on HJ.out hb)
    have HZ := Lib.hid (ints_on HZ.out hb)
    have HBK := Lib.hid (rows_on HBK.out hb)
    clear hb
    go_wp2
    refine HKK.out _ _ (fun _ _ => HS.out) ?_
    refine wpK_take0 (v := ?_) (a' := ?_) 17 rfl (by kernel_rfl) (by kernel_rfl) (by kernel_rfl) (by kernel_rfl) (fun _ _ _ h => h) ?_ ?_ ?_
    rotate_left 2
    · refine .inl ⟨by kernel_rfl, ?_⟩; intro wS hS; clear hS; go_simp; with_reducible rfl
    · go_simp; with_reducible rfl
    refine wpK_take0 (v := ?_) (a' := ?_) 18 rfl (by kernel_rfl) (by kernel_rfl) (by kernel_rfl) (by kernel_rfl) (fun _ _ _ h => h) ?_ ?_ ?_
    rotate_left 2
    · refine .inl ⟨by kernel_rfl, ?_⟩; intro wS hS; clear hS; go_simp; with_reducible rfl
    · go_simp; with_reducible rfl
    refine wpK_take0 (v := ?_) (a' := ?_) 19 rfl (by kernel_rfl) (by kernel_rfl) (by kernel_rfl) (by kernel_rfl) (fun _ _ _ h => h) ?_ ?_ ?_
    rotate_left 2
    · refine .inl ⟨by kernel_rfl, ?_⟩; intro wS hS; clear hS; go_simp; with_reducible rfl
    · go_simp; with_reducible rfl
    refine wpK_take0 (v := ?_) (a' := ?_) 20 rfl (by kernel_rfl) (by kernel_rfl) (by kernel_rfl) (by kernel_rfl) (fun _ _ _ h => h) ?_ ?_ ?_
    rotate_left 2
    · refine .inl ⟨by kernel_rfl, ?_⟩; intro wS hS; clear hS; go_simp; with_reducible rfl
    · go_simp; with_reducible rfl
    refine wpK_take (v := .agg #[.int .i64 k, .int .i64 n, .string s, .slice A l.length c]) (a' := ?_) 21 rfl (by kernel_rfl) (by kernel_rfl) (by kernel_rfl) (by kernel_rfl) (by kernel_rfl) (fun _ _ _ h => h) HS.out ?_ ?_ ?_
    rotate_left 1
    · exact yieldsIf_load_mid (by kernel_rfl) 25 (.tmp 2) rfl (w.heap.size) 0 (by go_simp) _ _ (fun wS hS => range_row (HX0.out _ hS)) Try.underlying25 rfl (tySize _ _ _ _)
    · go_simp; with_reducible rfl
    refine wpK_one 22 rfl (by kernel_rfl) (fun K hK => ?_)
    have HKK := Lib.hid hK
    clear hK
    go_wp2_with fail
    refine (HVV.out _ HT.out).mono ?_
    rintro e w24 ⟨A24, c24, rfl, hi, _, _, _, hb⟩
    have HS := Lib.hid (HS.out.trans (hb.mono HS.out.size))
    have HT := Lib.hid (HT.out.on hb)
    have HT2 := Lib.hid (HT2.out.on hb)
    have HVA := Lib.hid (HVA.out.on hb)
    have HVB := Lib.hid (HVB.out.on hb)
    have HVE := Lib.hid (HVE.out.on hb)
    have HI := Lib.hid (ints_on HI.out hb)
    have HJ := Lib.hid (ints_on HJ.out hb)
    have HZ := Lib.hid (ints_on HZ.out hb)
    have HBK := Lib.hid (rows_on HBK.out hb)
    have HI2 := Lib.hid hi
    clear hb hi
    go_wp2
    refine HKK.out _ _ (fun _ _ => HS.out) ?_
    refine wpK_one 23 rfl (by kernel_rfl) (fun K hK => ?_)
    have HKK := Lib.hid hK
    clear hK
    go_wp2_with fail
    refine (sameInts_any vs vs _ _ _ _ hvl _ HI.out HI2.out rfl).mono ?_
    rintro e w25 ⟨rfl, hb⟩
    have HS := Lib.hid (HS.out.trans (hb.mono HS.out.size))
    have HT := Lib.hid (HT.out.on hb)
    have HT2 := Lib.hid (HT2.out.on hb)
    have HVA := Lib.hid (HVA.out.on hb)
    have HVB := Lib.hid (HVB.out.on hb)
    have HVE := Lib.hid (HVE.out.on hb)
    have HI := Lib.hid (ints_on HI.out hb)
    have HJ := Lib.hid (ints_on HJ.out hb)
    have HZ := Lib.hid (ints_on HZ.out hb)
    have HBK := Lib.hid (rows_on HBK.out hb)
    clear hb
    go_wp2
    refine HKK.out _ _ (fun _ _ => HS.out) ?_
    refine wpK_take0 (v := ?_) (a' := ?_) 24 rfl (by kernel_rfl) (by kernel_rfl) (by kernel_rfl) (by kernel_rfl) (fun _ _ _ h => h) ?_ ?_ ?_
    rotate_left 2
    · refine .inl ⟨by kernel_rfl, ?_⟩; intro wS hS; clear hS; go_simp; with_reducible rfl
    · go_simp; with_reducible rfl
    refine wpK_take0 (v := ?_) (a' := ?_) 25 rfl (by kernel_rfl) (by kernel_rfl) (by kernel_rfl) (by kernel_rfl) (fun _ _ _ h => h) ?_ ?_ ?_
    rotate_left 2
    · refine .inl ⟨by kernel_rfl, ?_⟩; intro wS hS; clear hS; go_simp; with_reducible rfl
    · go_simp; with_reducible rfl
    refine wpK_end (by kernel_rfl) ?_ _
    have HG0 := Lib.hid (row_on HG0.out HS.out)
    have HG1 := Lib.hid (row_on HG1.out HS.out)
    have HG5 := Lib.hid (row_on HG5.out HS.out)
    have HG7 := Lib.hid (row_on HG7.out HS.out)
    have HB := Lib.hid (below_then HB.out HS.out)
    clear HX0 HX5 HX9 HS HV HI2 HVE HBK HG9
    obtain ⟨q, hq⟩ : ∃ q, sameT C D = q := ⟨_, rfl⟩
    rw [hq] at HCA
    have HSQ := Lib.hid hq
    clear hq
    go_wp2
    go_loopw [13] (fun z wr => ∃ j : Nat, j ≤ vs.length ∧ z = .int .i64 j ∧ wr = w25) (fun z _ => vs.length - (intOf z).toNat)
    case atStart => exact ⟨0, Nat.zero_le _, rfl, rfl⟩
    case round =>
      obtain ⟨j, hj, rfl, rfl⟩ := hrel
      by_cases hlt : j < vs.length
      · obtain ⟨ad, rfl, _, hc⟩ := HZ.out.at_ (k := j) (by simpa using hlt)
        rw [range_at] at hc
        have q1 : ((j : Int) != j) = false := by simp
        go_wp2
        go_roundw
        case rel => exact ⟨j + 1, by omega, by go_num, (by first | trivial | rfl)⟩
        case measure => simp [intOf]; omega
      obtain rfl : j = vs.length := by omega
      have HX0 : Hid (∀ W', Below wr.heap.size wr W' → W'.heap[w.heap.size]? = some (.cells #[.int .i64 k, .int .i64 n, .string s, .slice A l.length c] 25 (0, 0))) := Lib.hid fun W' h => row_on HG0.out h
      have HX1 : Hid (∀ W', Below wr.heap.size wr W' → W'.heap[w.heap.size + 1]? = some (.cells #[.int .i64 k', .int .i64 n', .string s', .slice A' l'.length c'] 25 (0, 0))) := Lib.hid fun W' h => row_on HG1.out h
      have HX5 : Hid (∀ W', Below wr.heap.size wr W' → W'.heap[w3.heap.size]? = some (.cells #[.int .i64 C.kind, .int .i64 C.num, .string C.name, .slice A6 C.args.length c6] 25 (0, 0))) := Lib.hid fun W' h => row_on HG5.out h
      have HX7 : Hid (∀ W', Below wr.heap.size wr W' → W'.heap[w5.heap.size]? = some (.cells #[.int .i64 D.kind, .int .i64 D.num, .string D.name, .slice A8 D.args.length c8] 25 (0, 0))) := Lib.hid fun W' h => row_on HG7.out h
      have hqq : (q != q) = false := by simp
      go_wp2
      refine wp_region_K (fun w' => Below wr.heap.size wr w') (fun j => true) (by kernel_rfl) ?_
      have HS := Lib.hid (below_drew1 (Below.refl wr.heap.size wr))
      have HT := Lib.hid (HT.out.on HS.out)
      have HT2 := Lib.hid (HT2.out.on HS.out)
      have HVA := Lib.hid (HVA.out.on HS.out)
      have HVB := Lib.hid (HVB.out.on HS.out)
      have HI := Lib.hid (ints_on HI.out HS.out)
      have HJ := Lib.hid (ints_on HJ.out HS.out)
      refine wpK_take (v := .agg #[.int .i64 C.kind, .int .i64 C.num, .string C.name, .slice A6 C.args.length c6]) (a' := ?_) 0 rfl (by kernel_rfl) (by kernel_rfl) (by kernel_rfl) (by kernel_rfl) (by kernel_rfl) (fun _ _ _ h => h) HS.out ?_ ?_ ?_
      rotate_left 1
      · exact yieldsIf_load_mid (by kernel_rfl) 25 (.tmp 5) rfl (w3.heap.size) 0 (by go_simp) _ _ (fun wS hS => range_row (HX5.out _ hS)) Try.underlying25 rfl (tySize _ _ _ _)
      · go_simp; with_reducible rfl
      refine wpK_take (v := .agg #[.int .i64 D.kind, .int .i64 D.num, .string D.name, .slice A8 D.args.length c8]) (a' := ?_) 1 rfl (by kernel_rfl) (by kernel_rfl) (by kernel_rfl) (by kernel_rfl) (by kernel_rfl) (fun _ _ _ h => h) HS.out ?_ ?_ ?_
      rotate_left 1
      · exact yieldsIf_load_mid (by kernel_rfl) 25 (.tmp 7) rfl (w5.heap.size) 0 (by go_simp) _ _ (fun wS hS => range_row (HX7.out _ hS)) Try.underlying25 rfl (tySize _ _ _ _)
      · go_simp; with_reducible rfl
      refine wpK_take (v := .agg #[.int .i64 k, .int .i64 n, .string s, .slice A l.length c]) (a' := ?_) 3 rfl (by kernel_rfl) (by kernel_rfl) (by kernel_rfl) (by kernel_rfl) (by kernel_rfl) (fun _ _ _ h => h) HS.out ?_ ?_ ?_
      rotate_left 1
      · exact yieldsIf_load_mid (by kernel_rfl) 25 (.tmp 2) rfl (w.heap.size) 0 (by go_simp) _ _ (fun wS hS => range_row (HX0.out _ hS)) Try.underlying25 rfl (tySize _ _ _ _)
      · go_simp; with_reducible rfl
      refine wpK_take (v := .agg #[.int .i64 k', .int .i64 n', .string s', .slice A' l'.length c']) (a' := ?_) 4 rfl (by kernel_rfl) (by kernel_rfl) (by kernel_rfl) (by kernel_rfl) (by kernel_rfl) (fun _ _ _ h => h) HS.out ?_ ?_ ?_
      rotate_left 1
      · exact yieldsIf_load_mid (by kernel_rfl) 25 (.tmp 3) rfl (w.heap.size + 1) 0 (by go_simp) _ _ (fun wS hS => range_row (HX1.out _ hS)) Try.underlying25 rfl (tySize _ _ _ _)
      · go_simp; with_reducible rfl
      refine wpK_one 2 rfl (by kernel_rfl) (fun K hK => ?_)
      have HKK := Lib.hid hK
      clear hK
      go_wp2_with fail
      refine (same_val HVA.out HVB.out).mono ?_
      rw [HSQ.out]; rintro e w31 ⟨rfl, hb⟩
      have HS := Lib.hid (HS.out.trans (hb.mono HS.out.size))
      have HT := Lib.hid (HT.out.on hb)
      have HT2 := Lib.hid (HT2.out.on hb)
      have HVA := Lib.hid (HVA.out.on hb)
      have HVB := Lib.hid (HVB.out.on hb)
      have HI := Lib.hid (ints_on HI.out hb)
      have HJ := Lib.hid (ints_on HJ.out hb)
      clear hb
      go_wp2
      refine HKK.out _ _ (fun _ _ => HS.out) ?_
      refine wpK_one 5 rfl (by kernel_rfl) (fun K hK => ?_)
      have HKK := Lib.hid hK
      clear hK
      go_wp2_with fail
      refine (HAR.out _ HT.out HT2.out).mono ?_
      rintro e w32 ⟨v32, rfl, hv, hb⟩; obtain rfl : q = v32 := by (rw [Bool.eq_iff_iff, hv, ← HCA.out])
      have HS := Lib.hid (HS.out.trans (hb.mono HS.out.size))
      have HT := Lib.hid (HT.out.on hb)
      have HT2 := Lib.hid (HT2.out.on hb)
      have HVA := Lib.hid (HVA.out.on hb)
      have HVB := Lib.hid (HVB.out.on hb)
      have HI := Lib.hid (ints_on HI.out hb)
      have HJ := Lib.hid (ints_on HJ.out hb)
      clear hb
      go_wp2
      refine HKK.out _ _ (fun _ _ => HS.out) ?_
      refine wpK_take0 (v := ?_) (a' := ?_) 6 rfl (by kernel_rfl) (by kernel_rfl) (by kernel_rfl) (by kernel_rfl) (fun _ _ _ h => h) ?_ ?_ ?_
      rotate_left 2
      · refine .inl ⟨by kernel_rfl, ?_⟩; intro wS hS; clear hS; go_simp; with_reducible rfl
      · go_simp; with_reducible rfl
      refine wpK_end (by kernel_rfl) ?_ _
      have HG0 := Lib.hid (row_on HG0.out HS.out)
      have HG1 := Lib.hid (row_on HG1.out HS.out)
      have HG5 := Lib.hid (row_on HG5.out HS.out)
      have HG7 := Lib.hid (row_on HG7.out HS.out)
      have HB := Lib.hid (below_then HB.out HS.out)
      clear HX0 HX1 HX5 HX7 HS HT HT2 HAR HVV
      cases q
      case false =>
        go_wp2_with (first | (refine wpList_load_row_yes (by kernel_rfl) 25 _ rfl (w3.heap.size) rfl 25 #[.int .i64 C.kind, .int .i64 C.num, .string C.name, .slice A6 C.args.length c6] (0, 0) _ HG5.out Try.underlying25 rfl (tySizeA _ _ _ _) ?_) | (refine wpList_load_row_yes (by kernel_rfl) 25 _ rfl (w5.heap.size) rfl 25 #[.int .i64 D.kind, .int .i64 D.num, .string D.name, .slice A8 D.args.length c8] (0, 0) _ HG7.out Try.underlying25 rfl (tySizeA _ _ _ _) ?_))
        refine (same_val HVA.out HVB.out).mono ?_
        rw [HSQ.out]
        rintro e w41 ⟨rfl, hb⟩
        have HB := Lib.hid (below_then HB.out hb)
        clear hb
        go_wp2_with (go_at_call 16; refine (knows_any _).mono ?_; rintro e w42 ⟨rfl, hb9⟩; have HB9 := Lib.hid hb9; clear hb9)
        go_ret
        exact ⟨rfl, below_then HB.out HB9.out⟩
      case true =>
        have q2 : ((vs.length : Int) == us.length) = true := by rw [HLV.out ((sameT_iff _ _).1 HSQ.out)]; simp
        have L1 : ∀ W, (Builtin.len_ #[35] 3 #[.slice A5 vs.length c5]).run Try.prog W = .ok (.int .i64 vs.length) W := fun W => run_len_slice _ _ _ _ _ _ (by kernel_rfl)
        have L2 : ∀ W, (Builtin.len_ #[35] 3 #[.slice A7 us.length c7]).run Try.prog W = .ok (.int .i64 us.length) W := fun W => run_len_slice _ _ _ _ _ _ (by kernel_rfl)
        go_wp2_with (first | (refine wpList_load_row_yes (by kernel_rfl) 25 _ rfl (w3.heap.size) rfl 25 #[.int .i64 C.kind, .int .i64 C.num, .string C.name, .slice A6 C.args.length c6] (0, 0) _ HG5.out Try.underlying25 rfl (tySizeA _ _ _ _) ?_) | (refine wpList_load_row_yes (by kernel_rfl) 25 _ rfl (w5.heap.size) rfl 25 #[.int .i64 D.kind, .int .i64 D.num, .string D.name, .slice A8 D.args.length c8] (0, 0) _ HG7.out Try.underlying25 rfl (tySizeA _ _ _ _) ?_))
        refine (same_val HVA.out HVB.out).mono ?_
        rw [HSQ.out]
        rintro e w41 ⟨rfl, hb⟩
        have HB := Lib.hid (below_then HB.out hb)
        clear hb
        go_wp2_with (go_at_call 16; refine (knows_any _).mono ?_; rintro e w42 ⟨rfl, hb9⟩; have HB9 := Lib.hid hb9; clear hb9)
        go_ret
        exact ⟨rfl, below_then HB.out HB9.out⟩
end Go.Proofs.Ytgdclchpccbifaa
