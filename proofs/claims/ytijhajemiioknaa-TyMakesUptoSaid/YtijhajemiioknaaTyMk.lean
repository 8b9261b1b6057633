/-
  THE LAW TyMakes, BY THE NUMBER OF TYPES.
-/
import Derived.Test.YtijhajemiioknaaTyN
namespace Go.Proofs.Ytijhajemiioknaa
open Go.ChangeShapes Go.WideShapes Go.ChangeAt Go.RowKit
set_option linter.unusedVariables false
theorem val_rd {w : World} {k n : Int} {s : ByteArray} {l : List Tt} {A : Option Addr} {c : Nat} (h : Val w (.mk k n s l) (.agg #[.int .i64 k, .int .i64 n, .string s, .slice A l.length c])) : TyR.rd w (Lt w.heap.size) (.mk k n s l) [.int .i64 k, .int .i64 n, .string s, .slice A l.length c] := by
  obtain ⟨A', c', he, h⟩ := h
  simp only [Tt.kind, Tt.num, Tt.name, Tt.args, Value.agg.injEq, Array.mk.injEq, List.cons.injEq, Value.slice.injEq, and_true, true_and] at he
  obtain ⟨rfl, rfl⟩ := he
  exact h
theorem built1 {wr wx : World} {k0 n0 : Int} {s0 : ByteArray} {l0 : List Tt} {A0 : Option Addr} {c0 : Nat} (hg : wx.heap[wr.heap.size]? = some (.cells #[.int .i64 k0, .int .i64 n0, .string s0, .slice A0 l0.length c0] 25 (0, 0))) (hb : Below wr.heap.size wr wx) (h0 : Val wr (.mk k0 n0 s0 l0) (.agg #[.int .i64 k0, .int .i64 n0, .string s0, .slice A0 l0.length c0])) : Rows TyR 4 wx (Lt wx.heap.size) (some ⟨wr.heap.size, 0, none⟩) [Tt.mk k0 n0 s0 l0] := by
  have hlt := lt_of_cells hg
  refine (Rows.block (R := TyR) (sz := 4) (S := Lt wr.heap.size) (l := [Tt.mk k0 n0 s0 l0]) (rows := [[.int .i64 k0, .int .i64 n0, .string s0, .slice A0 l0.length c0]]) hg (by intro j u hj; simpa using hj) (by simp) rfl ?_).more (fun b hb' => by
    rcases hb' with hb' | rfl
    · exact Nat.lt_of_lt_of_le hb' hb.size
    · exact hlt)
  intro i a r ha hr
  match i, ha, hr with
  | 0, ha, hr => simp only [List.getElem?_cons_zero, Option.some.injEq] at ha hr; subst ha; subst hr; exact TyR.keep (Same.lt hb) (val_rd h0)
  | i + 1, ha, _ => simp at ha
theorem built2 {wr wx : World} {k0 n0 : Int} {s0 : ByteArray} {l0 : List Tt} {A0 : Option Addr} {c0 : Nat} {k1 n1 : Int} {s1 : ByteArray} {l1 : List Tt} {A1 : Option Addr} {c1 : Nat} (hg : wx.heap[wr.heap.size]? = some (.cells #[.int .i64 k0, .int .i64 n0, .string s0, .slice A0 l0.length c0, .int .i64 k1, .int .i64 n1, .string s1, .slice A1 l1.length c1] 25 (0, 0))) (hb : Below wr.heap.size wr wx) (h0 : Val wr (.mk k0 n0 s0 l0) (.agg #[.int .i64 k0, .int .i64 n0, .string s0, .slice A0 l0.length c0])) (h1 : Val wr (.mk k1 n1 s1 l1) (.agg #[.int .i64 k1, .int .i64 n1, .string s1, .slice A1 l1.length c1])) : Rows TyR 4 wx (Lt wx.heap.size) (some ⟨wr.heap.size, 0, none⟩) [Tt.mk k0 n0 s0 l0, Tt.mk k1 n1 s1 l1] := by
  have hlt := lt_of_cells hg
  refine (Rows.block (R := TyR) (sz := 4) (S := Lt wr.heap.size) (l := [Tt.mk k0 n0 s0 l0, Tt.mk k1 n1 s1 l1]) (rows := [[.int .i64 k0, .int .i64 n0, .string s0, .slice A0 l0.length c0], [.int .i64 k1, .int .i64 n1, .string s1, .slice A1 l1.length c1]]) hg (by intro j u hj; simpa using hj) (by simp) rfl ?_).more (fun b hb' => by
    rcases hb' with hb' | rfl
    · exact Nat.lt_of_lt_of_le hb' hb.size
    · exact hlt)
  intro i a r ha hr
  match i, ha, hr with
  | 0, ha, hr => simp only [List.getElem?_cons_zero, Option.some.injEq] at ha hr; subst ha; subst hr; exact TyR.keep (Same.lt hb) (val_rd h0)
  | 1, ha, hr => simp only [List.getElem?_cons_succ, List.getElem?_cons_zero, Option.some.injEq] at ha hr; subst ha; subst hr; exact TyR.keep (Same.lt hb) (val_rd h1)
  | i + 2, ha, _ => simp at ha
theorem built3 {wr wx : World} {k0 n0 : Int} {s0 : ByteArray} {l0 : List Tt} {A0 : Option Addr} {c0 : Nat} {k1 n1 : Int} {s1 : ByteArray} {l1 : List Tt} {A1 : Option Addr} {c1 : Nat} {k2 n2 : Int} {s2 : ByteArray} {l2 : List Tt} {A2 : Option Addr} {c2 : Nat} (hg : wx.heap[wr.heap.size]? = some (.cells #[.int .i64 k0, .int .i64 n0, .string s0, .slice A0 l0.length c0, .int .i64 k1, .int .i64 n1, .string s1, .slice A1 l1.length c1, .int .i64 k2, .int .i64 n2, .string s2, .slice A2 l2.length c2] 25 (0, 0))) (hb : Below wr.heap.size wr wx) (h0 : Val wr (.mk k0 n0 s0 l0) (.agg #[.int .i64 k0, .int .i64 n0, .string s0, .slice A0 l0.length c0])) (h1 : Val wr (.mk k1 n1 s1 l1) (.agg #[.int .i64 k1, .int .i64 n1, .string s1, .slice A1 l1.length c1])) (h2 : Val wr (.mk k2 n2 s2 l2) (.agg #[.int .i64 k2, .int .i64 n2, .string s2, .slice A2 l2.length c2])) : Rows TyR 4 wx (Lt wx.heap.size) (some ⟨wr.heap.size, 0, none⟩) [Tt.mk k0 n0 s0 l0, Tt.mk k1 n1 s1 l1, Tt.mk k2 n2 s2 l2] := by
  have hlt := lt_of_cells hg
  refine (Rows.block (R := TyR) (sz := 4) (S := Lt wr.heap.size) (l := [Tt.mk k0 n0 s0 l0, Tt.mk k1 n1 s1 l1, Tt.mk k2 n2 s2 l2]) (rows := [[.int .i64 k0, .int .i64 n0, .string s0, .slice A0 l0.length c0], [.int .i64 k1, .int .i64 n1, .string s1, .slice A1 l1.length c1], [.int .i64 k2, .int .i64 n2, .string s2, .slice A2 l2.length c2]]) hg (by intro j u hj; simpa using hj) (by simp) rfl ?_).more (fun b hb' => by
    rcases hb' with hb' | rfl
    · exact Nat.lt_of_lt_of_le hb' hb.size
    · exact hlt)
  intro i a r ha hr
  match i, ha, hr with
  | 0, ha, hr => simp only [List.getElem?_cons_zero, Option.some.injEq] at ha hr; subst ha; subst hr; exact TyR.keep (Same.lt hb) (val_rd h0)
  | 1, ha, hr => simp only [List.getElem?_cons_succ, List.getElem?_cons_zero, Option.some.injEq] at ha hr; subst ha; subst hr; exact TyR.keep (Same.lt hb) (val_rd h1)
  | 2, ha, hr => simp only [List.getElem?_cons_succ, List.getElem?_cons_zero, Option.some.injEq] at ha hr; subst ha; subst hr; exact TyR.keep (Same.lt hb) (val_rd h2)
  | i + 3, ha, _ => simp at ha
theorem built4 {wr wx : World} {k0 n0 : Int} {s0 : ByteArray} {l0 : List Tt} {A0 : Option Addr} {c0 : Nat} {k1 n1 : Int} {s1 : ByteArray} {l1 : List Tt} {A1 : Option Addr} {c1 : Nat} {k2 n2 : Int} {s2 : ByteArray} {l2 : List Tt} {A2 : Option Addr} {c2 : Nat} {k3 n3 : Int} {s3 : ByteArray} {l3 : List Tt} {A3 : Option Addr} {c3 : Nat} (hg : wx.heap[wr.heap.size]? = some (.cells #[.int .i64 k0, .int .i64 n0, .string s0, .slice A0 l0.length c0, .int .i64 k1, .int .i64 n1, .string s1, .slice A1 l1.length c1, .int .i64 k2, .int .i64 n2, .string s2, .slice A2 l2.length c2, .int .i64 k3, .int .i64 n3, .string s3, .slice A3 l3.length c3] 25 (0, 0))) (hb : Below wr.heap.size wr wx) (h0 : Val wr (.mk k0 n0 s0 l0) (.agg #[.int .i64 k0, .int .i64 n0, .string s0, .slice A0 l0.length c0])) (h1 : Val wr (.mk k1 n1 s1 l1) (.agg #[.int .i64 k1, .int .i64 n1, .string s1, .slice A1 l1.length c1])) (h2 : Val wr (.mk k2 n2 s2 l2) (.agg #[.int .i64 k2, .int .i64 n2, .string s2, .slice A2 l2.length c2])) (h3 : Val wr (.mk k3 n3 s3 l3) (.agg #[.int .i64 k3, .int .i64 n3, .string s3, .slice A3 l3.length c3])) : Rows TyR 4 wx (Lt wx.heap.size) (some ⟨wr.heap.size, 0, none⟩) [Tt.mk k0 n0 s0 l0, Tt.mk k1 n1 s1 l1, Tt.mk k2 n2 s2 l2, Tt.mk k3 n3 s3 l3] := by
  have hlt := lt_of_cells hg
  refine (Rows.block (R := TyR) (sz := 4) (S := Lt wr.heap.size) (l := [Tt.mk k0 n0 s0 l0, Tt.mk k1 n1 s1 l1, Tt.mk k2 n2 s2 l2, Tt.mk k3 n3 s3 l3]) (rows := [[.int .i64 k0, .int .i64 n0, .string s0, .slice A0 l0.length c0], [.int .i64 k1, .int .i64 n1, .string s1, .slice A1 l1.length c1], [.int .i64 k2, .int .i64 n2, .string s2, .slice A2 l2.length c2], [.int .i64 k3, .int .i64 n3, .string s3, .slice A3 l3.length c3]]) hg (by intro j u hj; simpa using hj) (by simp) rfl ?_).more (fun b hb' => by
    rcases hb' with hb' | rfl
    · exact Nat.lt_of_lt_of_le hb' hb.size
    · exact hlt)
  intro i a r ha hr
  match i, ha, hr with
  | 0, ha, hr => simp only [List.getElem?_cons_zero, Option.some.injEq] at ha hr; subst ha; subst hr; exact TyR.keep (Same.lt hb) (val_rd h0)
  | 1, ha, hr => simp only [List.getElem?_cons_succ, List.getElem?_cons_zero, Option.some.injEq] at ha hr; subst ha; subst hr; exact TyR.keep (Same.lt hb) (val_rd h1)
  | 2, ha, hr => simp only [List.getElem?_cons_succ, List.getElem?_cons_zero, Option.some.injEq] at ha hr; subst ha; subst hr; exact TyR.keep (Same.lt hb) (val_rd h2)
  | 3, ha, hr => simp only [List.getElem?_cons_succ, List.getElem?_cons_zero, Option.some.injEq] at ha hr; subst ha; subst hr; exact TyR.keep (Same.lt hb) (val_rd h3)
  | i + 4, ha, _ => simp at ha
set_option maxRecDepth 100000 in
set_option maxHeartbeats 8000000 in
theorem makes0 (s : ByteArray) (hs : s.size ≤ 1048576)  (A : Option Addr) (c : Nat) (w : World) (h : Rows TyR 4 w (Lt w.heap.size) A []) :
    Calls Try.prog 4 #[.string s, .slice A 0 c] w fun e w' => e = .returned (.bool true) ∧ Below w.heap.size w w' := by
  have HROWS := Lib.hid h
  have HOF := Lib.hid (of_nil (w := w) s hs)
  clear h
  go_enter Try.func4, Try.ntmps4
  go_wp2_with fail
  refine HOF.out.mono ?_
  rintro e w1 ⟨v1, rfl, ⟨A9, c9, rfl, hd9⟩, hb1⟩
  simp only [Tt.kind, Tt.num, Tt.name, Tt.args, List.length_nil] at hd9
  simp only [Tt.kind, Tt.num, Tt.name, Tt.args, List.length_nil]
  have hV9 : Val w1 (.mk 2 0 s []) (.agg #[.int .i64 2, .int .i64 0, .string s, .slice A9 0 c9]) := ⟨A9, c9, rfl, hd9⟩
  go_upto_region 15 with fail
  obtain ⟨wr, g5, hwr, hg5⟩ : ∃ wr g5, wr = w1.alloc (.cells #[.int .i64 2, .int .i64 0, .string s, .slice A9 0 c9] 25) ∧ g5 = w1.heap.size := ⟨_, _, rfl, rfl⟩
  have hbr : Below w.heap.size w wr := by rw [hwr]; exact below_then hb1 (below_new _ _)
  have hV9' : Val wr (.mk 2 0 s []) (.agg #[.int .i64 2, .int .i64 0, .string s, .slice A9 0 c9]) := by rw [hwr]; exact hV9.on (below_new _ _)
  have hgr : wr.heap[g5]? = some (.cells #[.int .i64 2, .int .i64 0, .string s, .slice A9 0 c9] 25 (0, 0)) := by rw [hwr, hg5]; exact heap_alloc_new _ _
  have hwg : w.heap.size ≤ g5 := by rw [hg5]; exact hb1.size
  rw [← hwr, ← hg5]
  have HB := Lib.hid hbr
  have HV := Lib.hid hV9'
  have HG := Lib.hid hgr
  have HWG := Lib.hid hwg
  clear hwr hg5 hbr hV9 hV9' hgr hb1 hd9 hwg
  obtain ⟨wz, hwz⟩ : ∃ wz, wz = wr := ⟨_, rfl⟩
  subst hwz
  have HZ := HB
  have HGZ := HG
  have HVZ := HV
  have HGA : Hid (∀ W', Below wz.heap.size wz W' → W'.heap[g5]? = some (.cells #[.int .i64 2, .int .i64 0, .string s, .slice A9 0 c9] 25 (0, 0))) := Lib.hid fun W' h => (h.block _ (lt_of_cells HGZ.out)).trans HGZ.out
  go_wp2
  refine wp_region_K (fun w' => Below wz.heap.size wz w') (fun j => true) (by kernel_rfl) ?_
  have HS := Lib.hid (below_drew1 (Below.refl wz.heap.size wz))
  have HVZ := Lib.hid (HVZ.out.on HS.out)
  refine wpK_take (v := .agg #[.int .i64 2, .int .i64 0, .string s, .slice A9 0 c9]) (a' := ?_) 0 rfl (by kernel_rfl) (by kernel_rfl) (by kernel_rfl) (by kernel_rfl) (by kernel_rfl) (fun _ _ _ h => h) HS.out ?_ ?_ ?_
  rotate_left 1
  · exact yieldsIf_load_mid (by kernel_rfl) 25 (.tmp 5) rfl g5 0 (by go_simp) _ _ (fun wS hS => range_row (HGA.out _ hS)) Try.underlying25 rfl (tySize _ _ _ _)
  · go_simp; with_reducible rfl
  refine wpK_take0 (v := ?_) (a' := ?_) 1 rfl (by kernel_rfl) (by kernel_rfl) (by kernel_rfl) (by kernel_rfl) (fun _ _ _ h => h) ?_ ?_ ?_
  rotate_left 2
  · refine .inl ⟨by kernel_rfl, ?_⟩; intro wS hS; clear hS; go_simp; with_reducible rfl
  · go_simp; with_reducible rfl
  refine wpK_take0 (v := ?_) (a' := ?_) 2 rfl (by kernel_rfl) (by kernel_rfl) (by kernel_rfl) (by kernel_rfl) (fun _ _ _ h => h) ?_ ?_ ?_
  rotate_left 2
  · refine .inl ⟨by kernel_rfl, ?_⟩; intro wS hS; clear hS; go_simp; with_reducible rfl
  · go_simp; with_reducible rfl
  have HRW := Lib.hid ((HROWS.out.keep (Same.lt (below_then HZ.out HS.out))).more (fun b hb => Nat.lt_of_lt_of_le hb (below_then HZ.out HS.out).size))
  refine wpK_one 3 rfl (by kernel_rfl) (fun K hK => ?_)
  have HKK := Lib.hid hK
  clear hK
  go_wp2_with fail
  refine (rof_val s [] A _ hs (by simp) HRW.out).mono ?_
  rintro e w7 ⟨v7, rfl, hv, hb⟩
  have HS := Lib.hid (HS.out.trans (hb.mono HS.out.size))
  have HVZ := Lib.hid (HVZ.out.on hb)
  have HV7 := Lib.hid hv
  clear hb hv
  go_wp2
  refine HKK.out _ _ (fun _ _ => HS.out) ?_
  refine wpK_one 4 rfl (by kernel_rfl) (fun K hK => ?_)
  have HKK := Lib.hid hK
  clear hK
  go_wp2_with fail
  refine (r8self HVZ.out HV7.out).mono ?_
  rintro e w8 ⟨rfl, hb⟩
  have HS := Lib.hid (HS.out.trans (hb.mono HS.out.size))
  clear hb
  go_wp2
  refine HKK.out _ _ (fun _ _ => HS.out) ?_
  refine wpK_take0 (v := ?_) (a' := ?_) 5 rfl (by kernel_rfl) (by kernel_rfl) (by kernel_rfl) (by kernel_rfl) (fun _ _ _ h => h) ?_ ?_ ?_
  rotate_left 2
  · refine .inl ⟨by kernel_rfl, ?_⟩; intro wS hS; clear hS; go_simp; with_reducible rfl
  · go_simp; with_reducible rfl
  refine wpK_one 6 rfl (by kernel_rfl) (fun K hK => ?_)
  have HKK := Lib.hid hK
  clear hK
  go_wp2_with fail
  refine (knows_any _).mono ?_
  rintro e w9 ⟨rfl, hb⟩
  have HS := Lib.hid (HS.out.trans (hb.mono HS.out.size))
  clear hb
  go_wp2
  refine HKK.out _ _ (fun _ _ => HS.out) ?_
  refine wpK_take0 (v := ?_) (a' := ?_) 7 rfl (by kernel_rfl) (by kernel_rfl) (by kernel_rfl) (by kernel_rfl) (fun _ _ _ h => h) ?_ ?_ ?_
  rotate_left 2
  · refine .inl ⟨by kernel_rfl, ?_⟩; intro wS hS; clear hS; go_simp; with_reducible rfl
  · go_simp; with_reducible rfl
  refine wpK_take0 (v := ?_) (a' := ?_) 8 rfl (by kernel_rfl) (by kernel_rfl) (by kernel_rfl) (by kernel_rfl) (fun _ _ _ h => h) ?_ ?_ ?_
  rotate_left 2
  · refine .inl ⟨by kernel_rfl, ?_⟩; intro wS hS; clear hS; go_simp; with_reducible rfl
  · go_simp; with_reducible rfl
  refine wpK_end (by kernel_rfl) ?_ _
  go_wp2
  go_ret
  exact ⟨rfl, below_then HZ.out HS.out⟩
set_option maxRecDepth 100000 in
set_option maxHeartbeats 8000000 in
theorem makes1 (s : ByteArray) (hs : s.size ≤ 1048576) (k0 n0 : Int) (s0 : ByteArray) (l0 : List Tt) (A : Option Addr) (c : Nat) (w : World) (h : Rows TyR 4 w (Lt w.heap.size) A [Tt.mk k0 n0 s0 l0]) :
    Calls Try.prog 4 #[.string s, .slice A 1 c] w fun e w' => e = .returned (.bool true) ∧ Below w.heap.size w w' := by
  obtain ⟨b, o, cs, hA, hSb, hr0, hd0⟩ := h 0 _ rfl
  subst hA
  obtain ⟨A0, c0, hcs, _⟩ := TyR.open_ hd0
  simp only [Tt.kind, Tt.num, Tt.name, Tt.args] at hcs
  subst hcs
  have HR0 : Hid (∀ W', Below w.heap.size w W' → W'.rangeAt b (o + 0 * 4) [.int .i64 k0, .int .i64 n0, .string s0, .slice A0 l0.length c0]) := Lib.hid fun W' h => range_keep hr0 h hSb
  have HD0 := Lib.hid (show Val w (.mk k0 n0 s0 l0) (.agg #[.int .i64 k0, .int .i64 n0, .string s0, .slice A0 l0.length c0]) from ⟨A0, c0, rfl, hd0⟩)
  have HROWS := Lib.hid h
  have HOF := Lib.hid (of_nil (w := w) s hs)
  clear h hr0 hd0 hSb
  go_enter Try.func4, Try.ntmps4
  go_wp2_with fail
  refine HOF.out.mono ?_
  rintro e w1 ⟨v1, rfl, ⟨A9, c9, rfl, hd9⟩, hb1⟩
  simp only [Tt.kind, Tt.num, Tt.name, Tt.args, List.length_nil] at hd9
  simp only [Tt.kind, Tt.num, Tt.name, Tt.args, List.length_nil]
  have hV9 : Val w1 (.mk 2 0 s []) (.agg #[.int .i64 2, .int .i64 0, .string s, .slice A9 0 c9]) := ⟨A9, c9, rfl, hd9⟩
  go_upto_region 6 with fail
  obtain ⟨wr, g5, hwr, hg5⟩ : ∃ wr g5, wr = w1.alloc (.cells #[.int .i64 2, .int .i64 0, .string s, .slice A9 0 c9] 25) ∧ g5 = w1.heap.size := ⟨_, _, rfl, rfl⟩
  have hbr : Below w.heap.size w wr := by rw [hwr]; exact below_then hb1 (below_new _ _)
  have hV9' : Val wr (.mk 2 0 s []) (.agg #[.int .i64 2, .int .i64 0, .string s, .slice A9 0 c9]) := by rw [hwr]; exact hV9.on (below_new _ _)
  have hgr : wr.heap[g5]? = some (.cells #[.int .i64 2, .int .i64 0, .string s, .slice A9 0 c9] 25 (0, 0)) := by rw [hwr, hg5]; exact heap_alloc_new _ _
  have hwg : w.heap.size ≤ g5 := by rw [hg5]; exact hb1.size
  rw [← hwr, ← hg5]
  have HB := Lib.hid hbr
  have HV := Lib.hid hV9'
  have HG := Lib.hid hgr
  have HWG := Lib.hid hwg
  clear hwr hg5 hbr hV9 hV9' hgr hb1 hd9 hwg
  go_wp2_with (refine wpList_load_mid rfl 25 _ rfl b (o + 0 * 4) rfl _ _ (HR0.out _ HB.out) Try.underlying25 rfl (tySize _ _ _ _) ?_)
  obtain ⟨wx, hwx⟩ : ∃ wx, wx = wr.alloc (.cells #[.int .i64 k0, .int .i64 n0, .string s0, .slice A0 l0.length c0] 25) := ⟨_, rfl⟩
  have hbx : Below wr.heap.size wr wx := by rw [hwx]; exact below_new _ _
  have hgx : wx.heap[wr.heap.size]? = some (.cells #[.int .i64 k0, .int .i64 n0, .string s0, .slice A0 l0.length c0] 25 (0, 0)) := by rw [hwx]; exact heap_alloc_new _ _
  have HCALL := Lib.hid (of_any s [Tt.mk k0 n0 s0 l0] (some ⟨wr.heap.size, 0, none⟩) 1 wx _ (fun _ h => h) hs (by simp) (built1 hgx hbx (HD0.out.on HB.out)))
  rw [← hwx]
  have HBX := Lib.hid (below_then HB.out hbx)
  have HGL := Lib.hid (Nat.lt_of_lt_of_le (lt_of_cells HG.out) hbx.size)
  have HGX := Lib.hid ((hbx.block _ (lt_of_cells HG.out)).trans HG.out)
  clear hbx hgx hwx
  refine HCALL.out.mono ?_
  rintro e w3 ⟨A8, c8, rfl, hd8, hb3⟩
  have HD8 := Lib.hid hd8
  have HB3 := Lib.hid (below_then HBX.out hb3)
  have HG3 := Lib.hid ((hb3.block _ (lt_of_cells HGX.out)).trans HGX.out)
  clear hd8 hb3
  go_upto_region 15 with (refine wpList_store_row rfl 25 _ _ rfl g5 _ rfl rfl 25 #[.int .i64 2, .int .i64 0, .string s, .slice A9 0 c9] HG3.out (tySizeA _ _ _ _) rfl (one4 _ _ _ _ _ _) ?_)
  obtain ⟨f1, f2⟩ := boxed_end (w := w) (b := g5) (r := #[.int .i64 2, .int .i64 0, .string s, .slice A8 1 c8]) HD8.out HGL.out HWG.out HB3.out
  have f3 := setRow_row (cs := #[.int .i64 2, .int .i64 0, .string s, .slice A8 1 c8]) HG3.out
  obtain ⟨wz, hwz⟩ : ∃ wz, wz = w3.setRow g5 #[.int .i64 2, .int .i64 0, .string s, .slice A8 1 c8] := ⟨_, rfl⟩
  try simp only [Tt.kind, Tt.num, Tt.name, Tt.args, List.length_cons, List.length_nil, Nat.zero_add]
  rw [← hwz] at f1 f2 f3 ⊢
  have HZ := Lib.hid f2
  have HGZ := Lib.hid f3
  have HVZ := Lib.hid (show Val wz (.mk 2 0 s [Tt.mk k0 n0 s0 l0]) (.agg #[.int .i64 2, .int .i64 0, .string s, .slice A8 1 c8]) from ⟨A8, c8, rfl, TyR.more (fun b hb => hb.2) f1⟩)
  clear f1 f2 f3 hwz
  have HGA : Hid (∀ W', Below wz.heap.size wz W' → W'.heap[g5]? = some (.cells #[.int .i64 2, .int .i64 0, .string s, .slice A8 1 c8] 25 (0, 0))) := Lib.hid fun W' h => (h.block _ (lt_of_cells HGZ.out)).trans HGZ.out
  go_wp2
  refine wp_region_K (fun w' => Below wz.heap.size wz w') (fun j => true) (by kernel_rfl) ?_
  have HS := Lib.hid (below_drew1 (Below.refl wz.heap.size wz))
  have HVZ := Lib.hid (HVZ.out.on HS.out)
  refine wpK_take (v := .agg #[.int .i64 2, .int .i64 0, .string s, .slice A8 1 c8]) (a' := ?_) 0 rfl (by kernel_rfl) (by kernel_rfl) (by kernel_rfl) (by kernel_rfl) (by kernel_rfl) (fun _ _ _ h => h) HS.out ?_ ?_ ?_
  rotate_left 1
  · exact yieldsIf_load_mid (by kernel_rfl) 25 (.tmp 5) rfl g5 0 (by go_simp) _ _ (fun wS hS => range_row (HGA.out _ hS)) Try.underlying25 rfl (tySize _ _ _ _)
  · go_simp; with_reducible rfl
  refine wpK_take0 (v := ?_) (a' := ?_) 1 rfl (by kernel_rfl) (by kernel_rfl) (by kernel_rfl) (by kernel_rfl) (fun _ _ _ h => h) ?_ ?_ ?_
  rotate_left 2
  · refine .inl ⟨by kernel_rfl, ?_⟩; intro wS hS; clear hS; go_simp; with_reducible rfl
  · go_simp; with_reducible rfl
  refine wpK_take0 (v := ?_) (a' := ?_) 2 rfl (by kernel_rfl) (by kernel_rfl) (by kernel_rfl) (by kernel_rfl) (fun _ _ _ h => h) ?_ ?_ ?_
  rotate_left 2
  · refine .inl ⟨by kernel_rfl, ?_⟩; intro wS hS; clear hS; go_simp; with_reducible rfl
  · go_simp; with_reducible rfl
  have HRW := Lib.hid ((HROWS.out.keep (Same.lt (below_then HZ.out HS.out))).more (fun b hb => Nat.lt_of_lt_of_le hb (below_then HZ.out HS.out).size))
  refine wpK_one 3 rfl (by kernel_rfl) (fun K hK => ?_)
  have HKK := Lib.hid hK
  clear hK
  go_wp2_with fail
  refine (rof_val s [Tt.mk k0 n0 s0 l0] (some ⟨b, o, none⟩) _ hs (by simp) HRW.out).mono ?_
  rintro e w7 ⟨v7, rfl, hv, hb⟩
  have HS := Lib.hid (HS.out.trans (hb.mono HS.out.size))
  have HVZ := Lib.hid (HVZ.out.on hb)
  have HV7 := Lib.hid hv
  clear hb hv
  go_wp2
  refine HKK.out _ _ (fun _ _ => HS.out) ?_
  refine wpK_one 4 rfl (by kernel_rfl) (fun K hK => ?_)
  have HKK := Lib.hid hK
  clear hK
  go_wp2_with fail
  refine (r8self HVZ.out HV7.out).mono ?_
  rintro e w8 ⟨rfl, hb⟩
  have HS := Lib.hid (HS.out.trans (hb.mono HS.out.size))
  clear hb
  go_wp2
  refine HKK.out _ _ (fun _ _ => HS.out) ?_
  refine wpK_take0 (v := ?_) (a' := ?_) 5 rfl (by kernel_rfl) (by kernel_rfl) (by kernel_rfl) (by kernel_rfl) (fun _ _ _ h => h) ?_ ?_ ?_
  rotate_left 2
  · refine .inl ⟨by kernel_rfl, ?_⟩; intro wS hS; clear hS; go_simp; with_reducible rfl
  · go_simp; with_reducible rfl
  refine wpK_one 6 rfl (by kernel_rfl) (fun K hK => ?_)
  have HKK := Lib.hid hK
  clear hK
  go_wp2_with fail
  refine (knows_any _).mono ?_
  rintro e w9 ⟨rfl, hb⟩
  have HS := Lib.hid (HS.out.trans (hb.mono HS.out.size))
  clear hb
  go_wp2
  refine HKK.out _ _ (fun _ _ => HS.out) ?_
  refine wpK_take0 (v := ?_) (a' := ?_) 7 rfl (by kernel_rfl) (by kernel_rfl) (by kernel_rfl) (by kernel_rfl) (fun _ _ _ h => h) ?_ ?_ ?_
  rotate_left 2
  · refine .inl ⟨by kernel_rfl, ?_⟩; intro wS hS; clear hS; go_simp; with_reducible rfl
  · go_simp; with_reducible rfl
  refine wpK_take0 (v := ?_) (a' := ?_) 8 rfl (by kernel_rfl) (by kernel_rfl) (by kernel_rfl) (by kernel_rfl) (fun _ _ _ h => h) ?_ ?_ ?_
  rotate_left 2
  · refine .inl ⟨by kernel_rfl, ?_⟩; intro wS hS; clear hS; go_simp; with_reducible rfl
  · go_simp; with_reducible rfl
  refine wpK_end (by kernel_rfl) ?_ _
  go_wp2
  go_ret
  exact ⟨rfl, below_then HZ.out HS.out⟩
set_option maxRecDepth 100000 in
set_option maxHeartbeats 8000000 in
theorem makes2 (s : ByteArray) (hs : s.size ≤ 1048576) (k0 n0 : Int) (s0 : ByteArray) (l0 : List Tt) (k1 n1 : Int) (s1 : ByteArray) (l1 : List Tt) (A : Option Addr) (c : Nat) (w : World) (h : Rows TyR 4 w (Lt w.heap.size) A [Tt.mk k0 n0 s0 l0, Tt.mk k1 n1 s1 l1]) :
    Calls Try.prog 4 #[.string s, .slice A 2 c] w fun e w' => e = .returned (.bool true) ∧ Below w.heap.size w w' := by
  obtain ⟨b, o, cs, hA, hSb, hr0, hd0⟩ := h 0 _ rfl
  subst hA
  obtain ⟨A0, c0, hcs, _⟩ := TyR.open_ hd0
  simp only [Tt.kind, Tt.num, Tt.name, Tt.args] at hcs
  subst hcs
  have HR0 : Hid (∀ W', Below w.heap.size w W' → W'.rangeAt b (o + 0 * 4) [.int .i64 k0, .int .i64 n0, .string s0, .slice A0 l0.length c0]) := Lib.hid fun W' h => range_keep hr0 h hSb
  have HD0 := Lib.hid (show Val w (.mk k0 n0 s0 l0) (.agg #[.int .i64 k0, .int .i64 n0, .string s0, .slice A0 l0.length c0]) from ⟨A0, c0, rfl, hd0⟩)
  obtain ⟨b', o', cs, hA, _, hr1, hd1⟩ := h 1 _ rfl
  injection hA with hA; injection hA with hb' ho'; subst hb'; subst ho'
  obtain ⟨A1, c1, hcs, _⟩ := TyR.open_ hd1
  simp only [Tt.kind, Tt.num, Tt.name, Tt.args] at hcs
  subst hcs
  have HR1 : Hid (∀ W', Below w.heap.size w W' → W'.rangeAt b (o + 1 * 4) [.int .i64 k1, .int .i64 n1, .string s1, .slice A1 l1.length c1]) := Lib.hid fun W' h => range_keep hr1 h hSb
  have HD1 := Lib.hid (show Val w (.mk k1 n1 s1 l1) (.agg #[.int .i64 k1, .int .i64 n1, .string s1, .slice A1 l1.length c1]) from ⟨A1, c1, rfl, hd1⟩)
  have HROWS := Lib.hid h
  have HOF := Lib.hid (of_nil (w := w) s hs)
  clear h hr0 hd0 hr1 hd1 hSb
  go_enter Try.func4, Try.ntmps4
  go_wp2_with fail
  refine HOF.out.mono ?_
  rintro e w1 ⟨v1, rfl, ⟨A9, c9, rfl, hd9⟩, hb1⟩
  simp only [Tt.kind, Tt.num, Tt.name, Tt.args, List.length_nil] at hd9
  simp only [Tt.kind, Tt.num, Tt.name, Tt.args, List.length_nil]
  have hV9 : Val w1 (.mk 2 0 s []) (.agg #[.int .i64 2, .int .i64 0, .string s, .slice A9 0 c9]) := ⟨A9, c9, rfl, hd9⟩
  go_upto_region 8 with fail
  obtain ⟨wr, g5, hwr, hg5⟩ : ∃ wr g5, wr = w1.alloc (.cells #[.int .i64 2, .int .i64 0, .string s, .slice A9 0 c9] 25) ∧ g5 = w1.heap.size := ⟨_, _, rfl, rfl⟩
  have hbr : Below w.heap.size w wr := by rw [hwr]; exact below_then hb1 (below_new _ _)
  have hV9' : Val wr (.mk 2 0 s []) (.agg #[.int .i64 2, .int .i64 0, .string s, .slice A9 0 c9]) := by rw [hwr]; exact hV9.on (below_new _ _)
  have hgr : wr.heap[g5]? = some (.cells #[.int .i64 2, .int .i64 0, .string s, .slice A9 0 c9] 25 (0, 0)) := by rw [hwr, hg5]; exact heap_alloc_new _ _
  have hwg : w.heap.size ≤ g5 := by rw [hg5]; exact hb1.size
  rw [← hwr, ← hg5]
  have HB := Lib.hid hbr
  have HV := Lib.hid hV9'
  have HG := Lib.hid hgr
  have HWG := Lib.hid hwg
  clear hwr hg5 hbr hV9 hV9' hgr hb1 hd9 hwg
  refine wp_region_K (fun w' => Below wr.heap.size wr w') (fun j => j != 9) (by kernel_rfl) ?_
  have HS := Lib.hid (below_drew1 (Below.refl wr.heap.size wr))
  refine wpK_take0 (v := ?_) (a' := ?_) 0 rfl (by kernel_rfl) (by kernel_rfl) (by kernel_rfl) (by kernel_rfl) (fun _ _ _ h => h) ?_ ?_ ?_
  rotate_left 2
  · refine .inl ⟨by kernel_rfl, ?_⟩; intro wS hS; clear hS; go_simp; with_reducible rfl
  · go_simp; with_reducible rfl
  refine wpK_take0 (v := ?_) (a' := ?_) 1 rfl (by kernel_rfl) (by kernel_rfl) (by kernel_rfl) (by kernel_rfl) (fun _ _ _ h => h) ?_ ?_ ?_
  rotate_left 2
  · refine .inl ⟨by kernel_rfl, ?_⟩; intro wS hS; clear hS; go_simp; with_reducible rfl
  · go_simp; with_reducible rfl
  refine wpK_take0 (v := ?_) (a' := ?_) 2 rfl (by kernel_rfl) (by kernel_rfl) (by kernel_rfl) (by kernel_rfl) (fun _ _ _ h => h) ?_ ?_ ?_
  rotate_left 2
  · refine .inl ⟨by kernel_rfl, ?_⟩; intro wS hS; clear hS; go_simp; with_reducible rfl
  · go_simp; with_reducible rfl
  refine wpK_take (v := .agg #[.int .i64 k0, .int .i64 n0, .string s0, .slice A0 l0.length c0]) (a' := ?_) 3 rfl (by kernel_rfl) (by kernel_rfl) (by kernel_rfl) (by kernel_rfl) (by kernel_rfl) (fun _ _ _ h => h) HS.out ?_ ?_ ?_
  rotate_left 1
  · exact yieldsIf_load_mid (by kernel_rfl) 25 (.tmp 27) rfl b (o + 0 * 4) (by go_simp) _ _ (fun wS hS => HR0.out _ (HB.out.trans (hS.mono HB.out.size))) Try.underlying25 rfl (tySize _ _ _ _)
  · go_simp; with_reducible rfl
  refine wpK_take0 (v := ?_) (a' := ?_) 4 rfl (by kernel_rfl) (by kernel_rfl) (by kernel_rfl) (by kernel_rfl) (fun _ _ _ h => h) ?_ ?_ ?_
  rotate_left 2
  · refine .inl ⟨by kernel_rfl, ?_⟩; intro wS hS; clear hS; go_simp; with_reducible rfl
  · go_simp; with_reducible rfl
  refine wpK_take0 (v := ?_) (a' := ?_) 5 rfl (by kernel_rfl) (by kernel_rfl) (by kernel_rfl) (by kernel_rfl) (fun _ _ _ h => h) ?_ ?_ ?_
  rotate_left 2
  · refine .inl ⟨by kernel_rfl, ?_⟩; intro wS hS; clear hS; go_simp; with_reducible rfl
  · go_simp; with_reducible rfl
  refine wpK_take (v := .agg #[.int .i64 k1, .int .i64 n1, .string s1, .slice A1 l1.length c1]) (a' := ?_) 6 rfl (by kernel_rfl) (by kernel_rfl) (by kernel_rfl) (by kernel_rfl) (by kernel_rfl) (fun _ _ _ h => h) HS.out ?_ ?_ ?_
  rotate_left 1
  · exact yieldsIf_load_mid (by kernel_rfl) 25 (.tmp 30) rfl b (o + 1 * 4) (by go_simp) _ _ (fun wS hS => HR1.out _ (HB.out.trans (hS.mono HB.out.size))) Try.underlying25 rfl (tySize _ _ _ _)
  · go_simp; with_reducible rfl
  refine wpK_one 7 rfl (by kernel_rfl) (fun K hK => ?_)
  have HKK := Lib.hid hK
  clear hK
  go_wp2
  obtain ⟨wx, hwx⟩ : ∃ wx, wx = (wr.alloc (.cells #[.int .i64 k0, .int .i64 n0, .string s0, .slice A0 l0.length c0, .int .i64 k1, .int .i64 n1, .string s1, .slice A1 l1.length c1] 25)).drew := ⟨_, rfl⟩
  have hbx : Below wr.heap.size wr wx := by rw [hwx]; exact below_drew1 (below_new _ _)
  have hgx : wx.heap[wr.heap.size]? = some (.cells #[.int .i64 k0, .int .i64 n0, .string s0, .slice A0 l0.length c0, .int .i64 k1, .int .i64 n1, .string s1, .slice A1 l1.length c1] 25 (0, 0)) := by rw [hwx]; exact heap_alloc_new _ _
  have HS := Lib.hid hbx
  have HGL := Lib.hid (Nat.lt_of_lt_of_le (lt_of_cells HG.out) hbx.size)
  rw [← hwx]
  refine HKK.out _ _ (fun _ _ => HS.out) ?_
  have HCALL := Lib.hid (of_any s [Tt.mk k0 n0 s0 l0, Tt.mk k1 n1 s1 l1] (some ⟨wr.heap.size, 0, none⟩) 2 wx _ (fun _ h => h) hs (by simp) (built2 hgx hbx (HD0.out.on HB.out) (HD1.out.on HB.out)))
  clear hbx hgx hwx
  refine wpK_one 8 rfl (by kernel_rfl) (fun K hK => ?_)
  have HKK := Lib.hid hK
  clear hK
  go_wp2_with fail
  refine HCALL.out.mono ?_
  rintro e w3 ⟨A8, c8, rfl, hd8, hb3⟩
  have HD8 := Lib.hid hd8
  have HS := Lib.hid (HS.out.trans (hb3.mono HS.out.size))
  have HB3 := Lib.hid (below_then HB.out HS.out)
  have HG3 := Lib.hid ((HS.out.block _ (lt_of_cells HG.out)).trans HG.out)
  clear hd8 hb3
  go_wp2
  refine HKK.out _ _ (fun _ _ => HS.out) ?_
  refine wpK_one 9 rfl (by kernel_rfl) (fun K hK => ?_)
  have HKK := Lib.hid hK
  clear hK
  refine wpList_store_row rfl 25 _ _ rfl g5 _ rfl rfl 25 #[.int .i64 2, .int .i64 0, .string s, .slice A9 0 c9] HG3.out (tySizeA _ _ _ _) rfl (one4 _ _ _ _ _ _) ?_
  refine wpList_nil ?_
  refine HKK.out _ _ (fun h => absurd h (by decide)) ?_
  refine wpK_end (by kernel_rfl) ?_ _
  go_upto_region 9 with fail
  obtain ⟨f1, f2⟩ := boxed_end (w := w) (b := g5) (r := #[.int .i64 2, .int .i64 0, .string s, .slice A8 2 c8]) HD8.out HGL.out HWG.out HB3.out
  have f3 := setRow_row (cs := #[.int .i64 2, .int .i64 0, .string s, .slice A8 2 c8]) HG3.out
  obtain ⟨wz, hwz⟩ : ∃ wz, wz = w3.setRow g5 #[.int .i64 2, .int .i64 0, .string s, .slice A8 2 c8] := ⟨_, rfl⟩
  try simp only [Tt.kind, Tt.num, Tt.name, Tt.args, List.length_cons, List.length_nil, Nat.zero_add, Nat.reduceAdd]
  rw [← hwz] at f1 f2 f3 ⊢
  have HZ := Lib.hid f2
  have HGZ := Lib.hid f3
  have HVZ := Lib.hid (show Val wz (.mk 2 0 s [Tt.mk k0 n0 s0 l0, Tt.mk k1 n1 s1 l1]) (.agg #[.int .i64 2, .int .i64 0, .string s, .slice A8 2 c8]) from ⟨A8, c8, rfl, TyR.more (fun b hb => hb.2) f1⟩)
  clear f1 f2 f3 hwz
  have HGA : Hid (∀ W', Below wz.heap.size wz W' → W'.heap[g5]? = some (.cells #[.int .i64 2, .int .i64 0, .string s, .slice A8 2 c8] 25 (0, 0))) := Lib.hid fun W' h => (h.block _ (lt_of_cells HGZ.out)).trans HGZ.out
  go_wp2
  refine wp_region_K (fun w' => Below wz.heap.size wz w') (fun j => true) (by kernel_rfl) ?_
  have HS := Lib.hid (below_drew1 (Below.refl wz.heap.size wz))
  refine wpK_take0 (v := ?_) (a' := ?_) 0 rfl (by kernel_rfl) (by kernel_rfl) (by kernel_rfl) (by kernel_rfl) (fun _ _ _ h => h) ?_ ?_ ?_
  rotate_left 2
  · refine .inl ⟨by kernel_rfl, ?_⟩; intro wS hS; clear hS; go_simp; with_reducible rfl
  · go_simp; with_reducible rfl
  refine wpK_take0 (v := ?_) (a' := ?_) 1 rfl (by kernel_rfl) (by kernel_rfl) (by kernel_rfl) (by kernel_rfl) (fun _ _ _ h => h) ?_ ?_ ?_
  rotate_left 2
  · refine .inl ⟨by kernel_rfl, ?_⟩; intro wS hS; clear hS; go_simp; with_reducible rfl
  · go_simp; with_reducible rfl
  refine wpK_take (v := .agg #[.int .i64 k0, .int .i64 n0, .string s0, .slice A0 l0.length c0]) (a' := ?_) 2 rfl (by kernel_rfl) (by kernel_rfl) (by kernel_rfl) (by kernel_rfl) (by kernel_rfl) (fun _ _ _ h => h) HS.out ?_ ?_ ?_
  rotate_left 1
  · exact yieldsIf_load_mid (by kernel_rfl) 25 (.tmp 35) rfl b (o + 0 * 4) (by go_simp) _ _ (fun wS hS => HR0.out _ (HZ.out.trans (hS.mono HZ.out.size))) Try.underlying25 rfl (tySize _ _ _ _)
  · go_simp; with_reducible rfl
  refine wpK_take0 (v := ?_) (a' := ?_) 3 rfl (by kernel_rfl) (by kernel_rfl) (by kernel_rfl) (by kernel_rfl) (fun _ _ _ h => h) ?_ ?_ ?_
  rotate_left 2
  · refine .inl ⟨by kernel_rfl, ?_⟩; intro wS hS; clear hS; go_simp; with_reducible rfl
  · go_simp; with_reducible rfl
  refine wpK_take0 (v := ?_) (a' := ?_) 4 rfl (by kernel_rfl) (by kernel_rfl) (by kernel_rfl) (by kernel_rfl) (fun _ _ _ h => h) ?_ ?_ ?_
  rotate_left 2
  · refine .inl ⟨by kernel_rfl, ?_⟩; intro wS hS; clear hS; go_simp; with_reducible rfl
  · go_simp; with_reducible rfl
  refine wpK_take (v := .agg #[.int .i64 k1, .int .i64 n1, .string s1, .slice A1 l1.length c1]) (a' := ?_) 5 rfl (by kernel_rfl) (by kernel_rfl) (by kernel_rfl) (by kernel_rfl) (by kernel_rfl) (fun _ _ _ h => h) HS.out ?_ ?_ ?_
  rotate_left 1
  · exact yieldsIf_load_mid (by kernel_rfl) 25 (.tmp 38) rfl b (o + 1 * 4) (by go_simp) _ _ (fun wS hS => HR1.out _ (HZ.out.trans (hS.mono HZ.out.size))) Try.underlying25 rfl (tySize _ _ _ _)
  · go_simp; with_reducible rfl
  refine wpK_take0 (v := ?_) (a' := ?_) 7 rfl (by kernel_rfl) (by kernel_rfl) (by kernel_rfl) (by kernel_rfl) (fun _ _ _ h => h) ?_ ?_ ?_
  rotate_left 2
  · refine .inl ⟨by kernel_rfl, ?_⟩; intro wS hS; clear hS; go_simp; with_reducible rfl
  · go_simp; with_reducible rfl
  refine wpK_take0 (v := ?_) (a' := ?_) 8 rfl (by kernel_rfl) (by kernel_rfl) (by kernel_rfl) (by kernel_rfl) (fun _ _ _ h => h) ?_ ?_ ?_
  rotate_left 2
  · refine .inl ⟨by kernel_rfl, ?_⟩; intro wS hS; clear hS; go_simp; with_reducible rfl
  · go_simp; with_reducible rfl
  refine wpK_take (v := .agg #[.int .i64 k0, .int .i64 n0, .string s0, .slice A0 l0.length c0]) (a' := ?_) 9 rfl (by kernel_rfl) (by kernel_rfl) (by kernel_rfl) (by kernel_rfl) (by kernel_rfl) (fun _ _ _ h => h) HS.out ?_ ?_ ?_
  rotate_left 1
  · exact yieldsIf_load_mid (by kernel_rfl) 25 (.tmp 42) rfl b (o + 0 * 4) (by go_simp) _ _ (fun wS hS => HR0.out _ (HZ.out.trans (hS.mono HZ.out.size))) Try.underlying25 rfl (tySize _ _ _ _)
  · go_simp; with_reducible rfl
  refine wpK_take0 (v := ?_) (a' := ?_) 10 rfl (by kernel_rfl) (by kernel_rfl) (by kernel_rfl) (by kernel_rfl) (fun _ _ _ h => h) ?_ ?_ ?_
  rotate_left 2
  · refine .inl ⟨by kernel_rfl, ?_⟩; intro wS hS; clear hS; go_simp; with_reducible rfl
  · go_simp; with_reducible rfl
  refine wpK_take0 (v := ?_) (a' := ?_) 11 rfl (by kernel_rfl) (by kernel_rfl) (by kernel_rfl) (by kernel_rfl) (fun _ _ _ h => h) ?_ ?_ ?_
  rotate_left 2
  · refine .inl ⟨by kernel_rfl, ?_⟩; intro wS hS; clear hS; go_simp; with_reducible rfl
  · go_simp; with_reducible rfl
  refine wpK_take (v := .agg #[.int .i64 k1, .int .i64 n1, .string s1, .slice A1 l1.length c1]) (a' := ?_) 12 rfl (by kernel_rfl) (by kernel_rfl) (by kernel_rfl) (by kernel_rfl) (by kernel_rfl) (fun _ _ _ h => h) HS.out ?_ ?_ ?_
  rotate_left 1
  · exact yieldsIf_load_mid (by kernel_rfl) 25 (.tmp 45) rfl b (o + 1 * 4) (by go_simp) _ _ (fun wS hS => HR1.out _ (HZ.out.trans (hS.mono HZ.out.size))) Try.underlying25 rfl (tySize _ _ _ _)
  · go_simp; with_reducible rfl
  have HE0 := Lib.hid (HD0.out.on (below_then HZ.out HS.out))
  have HE1 := Lib.hid (HD1.out.on (below_then HZ.out HS.out))
  refine wpK_one 6 rfl (by kernel_rfl) (fun K hK => ?_)
  have HKK := Lib.hid hK
  clear hK
  go_wp2_with fail
  refine (fn_val HE0.out HE1.out).mono ?_
  rintro e w4 ⟨v4, rfl, hv, hb⟩
  have HS := Lib.hid (HS.out.trans (hb.mono HS.out.size))
  have HE0 := Lib.hid (HE0.out.on hb)
  have HE1 := Lib.hid (HE1.out.on hb)
  have HV4 := Lib.hid hv
  clear hb hv
  go_wp2
  refine HKK.out _ _ (fun _ _ => HS.out) ?_
  refine wpK_one 13 rfl (by kernel_rfl) (fun K hK => ?_)
  have HKK := Lib.hid hK
  clear hK
  go_wp2_with fail
  refine (rfn_val HE0.out HE1.out).mono ?_
  rintro e w5 ⟨v5, rfl, hv, hb⟩
  have HS := Lib.hid (HS.out.trans (hb.mono HS.out.size))
  have HV4 := Lib.hid (HV4.out.on hb)
  have HV5 := Lib.hid hv
  clear hb hv
  go_wp2
  refine HKK.out _ _ (fun _ _ => HS.out) ?_
  refine wpK_one 14 rfl (by kernel_rfl) (fun K hK => ?_)
  have HKK := Lib.hid hK
  clear hK
  go_wp2_with fail
  refine (r8self HV4.out HV5.out).mono ?_
  rintro e w6 ⟨rfl, hb⟩
  have HS := Lib.hid (HS.out.trans (hb.mono HS.out.size))
  clear hb
  go_wp2
  refine HKK.out _ _ (fun _ _ => HS.out) ?_
  refine wpK_take0 (v := ?_) (a' := ?_) 15 rfl (by kernel_rfl) (by kernel_rfl) (by kernel_rfl) (by kernel_rfl) (fun _ _ _ h => h) ?_ ?_ ?_
  rotate_left 2
  · refine .inl ⟨by kernel_rfl, ?_⟩; intro wS hS; clear hS; go_simp; with_reducible rfl
  · go_simp; with_reducible rfl
  refine wpK_end (by kernel_rfl) ?_ _
  have HVZ := Lib.hid (HVZ.out.on HS.out)
  have HGA : Hid (∀ W', Below w6.heap.size w6 W' → W'.heap[g5]? = some (.cells #[.int .i64 2, .int .i64 0, .string s, .slice A8 2 c8] 25 (0, 0))) := Lib.hid fun W' h => HGA.out _ (HS.out.trans (h.mono HS.out.size))
  have HZ := Lib.hid (below_then HZ.out HS.out)
  clear HS
  go_wp2
  refine wp_region_K (fun w' => Below w6.heap.size w6 w') (fun j => true) (by kernel_rfl) ?_
  have HS := Lib.hid (below_drew1 (Below.refl w6.heap.size w6))
  have HVZ := Lib.hid (HVZ.out.on HS.out)
  refine wpK_take (v := .agg #[.int .i64 2, .int .i64 0, .string s, .slice A8 2 c8]) (a' := ?_) 0 rfl (by kernel_rfl) (by kernel_rfl) (by kernel_rfl) (by kernel_rfl) (by kernel_rfl) (fun _ _ _ h => h) HS.out ?_ ?_ ?_
  rotate_left 1
  · exact yieldsIf_load_mid (by kernel_rfl) 25 (.tmp 5) rfl g5 0 (by go_simp) _ _ (fun wS hS => range_row (HGA.out _ hS)) Try.underlying25 rfl (tySize _ _ _ _)
  · go_simp; with_reducible rfl
  refine wpK_take0 (v := ?_) (a' := ?_) 1 rfl (by kernel_rfl) (by kernel_rfl) (by kernel_rfl) (by kernel_rfl) (fun _ _ _ h => h) ?_ ?_ ?_
  rotate_left 2
  · refine .inl ⟨by kernel_rfl, ?_⟩; intro wS hS; clear hS; go_simp; with_reducible rfl
  · go_simp; with_reducible rfl
  refine wpK_take0 (v := ?_) (a' := ?_) 2 rfl (by kernel_rfl) (by kernel_rfl) (by kernel_rfl) (by kernel_rfl) (fun _ _ _ h => h) ?_ ?_ ?_
  rotate_left 2
  · refine .inl ⟨by kernel_rfl, ?_⟩; intro wS hS; clear hS; go_simp; with_reducible rfl
  · go_simp; with_reducible rfl
  have HRW := Lib.hid ((HROWS.out.keep (Same.lt (below_then HZ.out HS.out))).more (fun b hb => Nat.lt_of_lt_of_le hb (below_then HZ.out HS.out).size))
  refine wpK_one 3 rfl (by kernel_rfl) (fun K hK => ?_)
  have HKK := Lib.hid hK
  clear hK
  go_wp2_with fail
  refine (rof_val s [Tt.mk k0 n0 s0 l0, Tt.mk k1 n1 s1 l1] (some ⟨b, o, none⟩) _ hs (by simp) HRW.out).mono ?_
  rintro e w7 ⟨v7, rfl, hv, hb⟩
  have HS := Lib.hid (HS.out.trans (hb.mono HS.out.size))
  have HVZ := Lib.hid (HVZ.out.on hb)
  have HV7 := Lib.hid hv
  clear hb hv
  go_wp2
  refine HKK.out _ _ (fun _ _ => HS.out) ?_
  refine wpK_one 4 rfl (by kernel_rfl) (fun K hK => ?_)
  have HKK := Lib.hid hK
  clear hK
  go_wp2_with fail
  refine (r8self HVZ.out HV7.out).mono ?_
  rintro e w8 ⟨rfl, hb⟩
  have HS := Lib.hid (HS.out.trans (hb.mono HS.out.size))
  clear hb
  go_wp2
  refine HKK.out _ _ (fun _ _ => HS.out) ?_
  refine wpK_take0 (v := ?_) (a' := ?_) 5 rfl (by kernel_rfl) (by kernel_rfl) (by kernel_rfl) (by kernel_rfl) (fun _ _ _ h => h) ?_ ?_ ?_
  rotate_left 2
  · refine .inl ⟨by kernel_rfl, ?_⟩; intro wS hS; clear hS; go_simp; with_reducible rfl
  · go_simp; with_reducible rfl
  refine wpK_one 6 rfl (by kernel_rfl) (fun K hK => ?_)
  have HKK := Lib.hid hK
  clear hK
  go_wp2_with fail
  refine (knows_any _).mono ?_
  rintro e w9 ⟨rfl, hb⟩
  have HS := Lib.hid (HS.out.trans (hb.mono HS.out.size))
  clear hb
  go_wp2
  refine HKK.out _ _ (fun _ _ => HS.out) ?_
  refine wpK_take0 (v := ?_) (a' := ?_) 7 rfl (by kernel_rfl) (by kernel_rfl) (by kernel_rfl) (by kernel_rfl) (fun _ _ _ h => h) ?_ ?_ ?_
  rotate_left 2
  · refine .inl ⟨by kernel_rfl, ?_⟩; intro wS hS; clear hS; go_simp; with_reducible rfl
  · go_simp; with_reducible rfl
  refine wpK_take0 (v := ?_) (a' := ?_) 8 rfl (by kernel_rfl) (by kernel_rfl) (by kernel_rfl) (by kernel_rfl) (fun _ _ _ h => h) ?_ ?_ ?_
  rotate_left 2
  · refine .inl ⟨by kernel_rfl, ?_⟩; intro wS hS; clear hS; go_simp; with_reducible rfl
  · go_simp; with_reducible rfl
  refine wpK_end (by kernel_rfl) ?_ _
  go_wp2
  go_ret
  exact ⟨rfl, below_then HZ.out HS.out⟩
set_option maxRecDepth 100000 in
set_option maxHeartbeats 8000000 in
theorem makes3 (s : ByteArray) (hs : s.size ≤ 1048576) (k0 n0 : Int) (s0 : ByteArray) (l0 : List Tt) (k1 n1 : Int) (s1 : ByteArray) (l1 : List Tt) (k2 n2 : Int) (s2 : ByteArray) (l2 : List Tt) (A : Option Addr) (c : Nat) (w : World) (h : Rows TyR 4 w (Lt w.heap.size) A [Tt.mk k0 n0 s0 l0, Tt.mk k1 n1 s1 l1, Tt.mk k2 n2 s2 l2]) :
    Calls Try.prog 4 #[.string s, .slice A 3 c] w fun e w' => e = .returned (.bool true) ∧ Below w.heap.size w w' := by
  obtain ⟨b, o, cs, hA, hSb, hr0, hd0⟩ := h 0 _ rfl
  subst hA
  obtain ⟨A0, c0, hcs, _⟩ := TyR.open_ hd0
  simp only [Tt.kind, Tt.num, Tt.name, Tt.args] at hcs
  subst hcs
  have HR0 : Hid (∀ W', Below w.heap.size w W' → W'.rangeAt b (o + 0 * 4) [.int .i64 k0, .int .i64 n0, .string s0, .slice A0 l0.length c0]) := Lib.hid fun W' h => range_keep hr0 h hSb
  have HD0 := Lib.hid (show Val w (.mk k0 n0 s0 l0) (.agg #[.int .i64 k0, .int .i64 n0, .string s0, .slice A0 l0.length c0]) from ⟨A0, c0, rfl, hd0⟩)
  obtain ⟨b', o', cs, hA, _, hr1, hd1⟩ := h 1 _ rfl
  injection hA with hA; injection hA with hb' ho'; subst hb'; subst ho'
  obtain ⟨A1, c1, hcs, _⟩ := TyR.open_ hd1
  simp only [Tt.kind, Tt.num, Tt.name, Tt.args] at hcs
  subst hcs
  have HR1 : Hid (∀ W', Below w.heap.size w W' → W'.rangeAt b (o + 1 * 4) [.int .i64 k1, .int .i64 n1, .string s1, .slice A1 l1.length c1]) := Lib.hid fun W' h => range_keep hr1 h hSb
  have HD1 := Lib.hid (show Val w (.mk k1 n1 s1 l1) (.agg #[.int .i64 k1, .int .i64 n1, .string s1, .slice A1 l1.length c1]) from ⟨A1, c1, rfl, hd1⟩)
  obtain ⟨b', o', cs, hA, _, hr2, hd2⟩ := h 2 _ rfl
  injection hA with hA; injection hA with hb' ho'; subst hb'; subst ho'
  obtain ⟨A2, c2, hcs, _⟩ := TyR.open_ hd2
  simp only [Tt.kind, Tt.num, Tt.name, Tt.args] at hcs
  subst hcs
  have HR2 : Hid (∀ W', Below w.heap.size w W' → W'.rangeAt b (o + 2 * 4) [.int .i64 k2, .int .i64 n2, .string s2, .slice A2 l2.length c2]) := Lib.hid fun W' h => range_keep hr2 h hSb
  have HD2 := Lib.hid (show Val w (.mk k2 n2 s2 l2) (.agg #[.int .i64 k2, .int .i64 n2, .string s2, .slice A2 l2.length c2]) from ⟨A2, c2, rfl, hd2⟩)
  have HROWS := Lib.hid h
  have HOF := Lib.hid (of_nil (w := w) s hs)
  clear h hr0 hd0 hr1 hd1 hr2 hd2 hSb
  go_enter Try.func4, Try.ntmps4
  go_wp2_with fail
  refine HOF.out.mono ?_
  rintro e w1 ⟨v1, rfl, ⟨A9, c9, rfl, hd9⟩, hb1⟩
  simp only [Tt.kind, Tt.num, Tt.name, Tt.args, List.length_nil] at hd9
  simp only [Tt.kind, Tt.num, Tt.name, Tt.args, List.length_nil]
  have hV9 : Val w1 (.mk 2 0 s []) (.agg #[.int .i64 2, .int .i64 0, .string s, .slice A9 0 c9]) := ⟨A9, c9, rfl, hd9⟩
  go_upto_region 12 with fail
  obtain ⟨wr, g5, hwr, hg5⟩ : ∃ wr g5, wr = w1.alloc (.cells #[.int .i64 2, .int .i64 0, .string s, .slice A9 0 c9] 25) ∧ g5 = w1.heap.size := ⟨_, _, rfl, rfl⟩
  have hbr : Below w.heap.size w wr := by rw [hwr]; exact below_then hb1 (below_new _ _)
  have hV9' : Val wr (.mk 2 0 s []) (.agg #[.int .i64 2, .int .i64 0, .string s, .slice A9 0 c9]) := by rw [hwr]; exact hV9.on (below_new _ _)
  have hgr : wr.heap[g5]? = some (.cells #[.int .i64 2, .int .i64 0, .string s, .slice A9 0 c9] 25 (0, 0)) := by rw [hwr, hg5]; exact heap_alloc_new _ _
  have hwg : w.heap.size ≤ g5 := by rw [hg5]; exact hb1.size
  rw [← hwr, ← hg5]
  have HB := Lib.hid hbr
  have HV := Lib.hid hV9'
  have HG := Lib.hid hgr
  have HWG := Lib.hid hwg
  clear hwr hg5 hbr hV9 hV9' hgr hb1 hd9 hwg
  refine wp_region_K (fun w' => Below wr.heap.size wr w') (fun j => j != 12) (by kernel_rfl) ?_
  have HS := Lib.hid (below_drew1 (Below.refl wr.heap.size wr))
  refine wpK_take0 (v := ?_) (a' := ?_) 0 rfl (by kernel_rfl) (by kernel_rfl) (by kernel_rfl) (by kernel_rfl) (fun _ _ _ h => h) ?_ ?_ ?_
  rotate_left 2
  · refine .inl ⟨by kernel_rfl, ?_⟩; intro wS hS; clear hS; go_simp; with_reducible rfl
  · go_simp; with_reducible rfl
  refine wpK_take0 (v := ?_) (a' := ?_) 1 rfl (by kernel_rfl) (by kernel_rfl) (by kernel_rfl) (by kernel_rfl) (fun _ _ _ h => h) ?_ ?_ ?_
  rotate_left 2
  · refine .inl ⟨by kernel_rfl, ?_⟩; intro wS hS; clear hS; go_simp; with_reducible rfl
  · go_simp; with_reducible rfl
  refine wpK_take0 (v := ?_) (a' := ?_) 2 rfl (by kernel_rfl) (by kernel_rfl) (by kernel_rfl) (by kernel_rfl) (fun _ _ _ h => h) ?_ ?_ ?_
  rotate_left 2
  · refine .inl ⟨by kernel_rfl, ?_⟩; intro wS hS; clear hS; go_simp; with_reducible rfl
  · go_simp; with_reducible rfl
  refine wpK_take (v := .agg #[.int .i64 k0, .int .i64 n0, .string s0, .slice A0 l0.length c0]) (a' := ?_) 3 rfl (by kernel_rfl) (by kernel_rfl) (by kernel_rfl) (by kernel_rfl) (by kernel_rfl) (fun _ _ _ h => h) HS.out ?_ ?_ ?_
  rotate_left 1
  · exact yieldsIf_load_mid (by kernel_rfl) 25 (.tmp 54) rfl b (o + 0 * 4) (by go_simp) _ _ (fun wS hS => HR0.out _ (HB.out.trans (hS.mono HB.out.size))) Try.underlying25 rfl (tySize _ _ _ _)
  · go_simp; with_reducible rfl
  refine wpK_take0 (v := ?_) (a' := ?_) 4 rfl (by kernel_rfl) (by kernel_rfl) (by kernel_rfl) (by kernel_rfl) (fun _ _ _ h => h) ?_ ?_ ?_
  rotate_left 2
  · refine .inl ⟨by kernel_rfl, ?_⟩; intro wS hS; clear hS; go_simp; with_reducible rfl
  · go_simp; with_reducible rfl
  refine wpK_take0 (v := ?_) (a' := ?_) 5 rfl (by kernel_rfl) (by kernel_rfl) (by kernel_rfl) (by kernel_rfl) (fun _ _ _ h => h) ?_ ?_ ?_
  rotate_left 2
  · refine .inl ⟨by kernel_rfl, ?_⟩; intro wS hS; clear hS; go_simp; with_reducible rfl
  · go_simp; with_reducible rfl
  refine wpK_take (v := .agg #[.int .i64 k1, .int .i64 n1, .string s1, .slice A1 l1.length c1]) (a' := ?_) 6 rfl (by kernel_rfl) (by kernel_rfl) (by kernel_rfl) (by kernel_rfl) (by kernel_rfl) (fun _ _ _ h => h) HS.out ?_ ?_ ?_
  rotate_left 1
  · exact yieldsIf_load_mid (by kernel_rfl) 25 (.tmp 57) rfl b (o + 1 * 4) (by go_simp) _ _ (fun wS hS => HR1.out _ (HB.out.trans (hS.mono HB.out.size))) Try.underlying25 rfl (tySize _ _ _ _)
  · go_simp; with_reducible rfl
  refine wpK_take0 (v := ?_) (a' := ?_) 7 rfl (by kernel_rfl) (by kernel_rfl) (by kernel_rfl) (by kernel_rfl) (fun _ _ _ h => h) ?_ ?_ ?_
  rotate_left 2
  · refine .inl ⟨by kernel_rfl, ?_⟩; intro wS hS; clear hS; go_simp; with_reducible rfl
  · go_simp; with_reducible rfl
  refine wpK_take0 (v := ?_) (a' := ?_) 8 rfl (by kernel_rfl) (by kernel_rfl) (by kernel_rfl) (by kernel_rfl) (fun _ _ _ h => h) ?_ ?_ ?_
  rotate_left 2
  · refine .inl ⟨by kernel_rfl, ?_⟩; intro wS hS; clear hS; go_simp; with_reducible rfl
  · go_simp; with_reducible rfl
  refine wpK_take (v := .agg #[.int .i64 k2, .int .i64 n2, .string s2, .slice A2 l2.length c2]) (a' := ?_) 9 rfl (by kernel_rfl) (by kernel_rfl) (by kernel_rfl) (by kernel_rfl) (by kernel_rfl) (fun _ _ _ h => h) HS.out ?_ ?_ ?_
  rotate_left 1
  · exact yieldsIf_load_mid (by kernel_rfl) 25 (.tmp 60) rfl b (o + 2 * 4) (by go_simp) _ _ (fun wS hS => HR2.out _ (HB.out.trans (hS.mono HB.out.size))) Try.underlying25 rfl (tySize _ _ _ _)
  · go_simp; with_reducible rfl
  refine wpK_one 10 rfl (by kernel_rfl) (fun K hK => ?_)
  have HKK := Lib.hid hK
  clear hK
  go_wp2
  obtain ⟨wx, hwx⟩ : ∃ wx, wx = (wr.alloc (.cells #[.int .i64 k0, .int .i64 n0, .string s0, .slice A0 l0.length c0, .int .i64 k1, .int .i64 n1, .string s1, .slice A1 l1.length c1, .int .i64 k2, .int .i64 n2, .string s2, .slice A2 l2.length c2] 25)).drew := ⟨_, rfl⟩
  have hbx : Below wr.heap.size wr wx := by rw [hwx]; exact below_drew1 (below_new _ _)
  have hgx : wx.heap[wr.heap.size]? = some (.cells #[.int .i64 k0, .int .i64 n0, .string s0, .slice A0 l0.length c0, .int .i64 k1, .int .i64 n1, .string s1, .slice A1 l1.length c1, .int .i64 k2, .int .i64 n2, .string s2, .slice A2 l2.length c2] 25 (0, 0)) := by rw [hwx]; exact heap_alloc_new _ _
  have HS := Lib.hid hbx
  have HGL := Lib.hid (Nat.lt_of_lt_of_le (lt_of_cells HG.out) hbx.size)
  rw [← hwx]
  refine HKK.out _ _ (fun _ _ => HS.out) ?_
  have HCALL := Lib.hid (of_any s [Tt.mk k0 n0 s0 l0, Tt.mk k1 n1 s1 l1, Tt.mk k2 n2 s2 l2] (some ⟨wr.heap.size, 0, none⟩) 3 wx _ (fun _ h => h) hs (by simp) (built3 hgx hbx (HD0.out.on HB.out) (HD1.out.on HB.out) (HD2.out.on HB.out)))
  clear hbx hgx hwx
  refine wpK_one 11 rfl (by kernel_rfl) (fun K hK => ?_)
  have HKK := Lib.hid hK
  clear hK
  go_wp2_with fail
  refine HCALL.out.mono ?_
  rintro e w3 ⟨A8, c8, rfl, hd8, hb3⟩
  have HD8 := Lib.hid hd8
  have HS := Lib.hid (HS.out.trans (hb3.mono HS.out.size))
  have HB3 := Lib.hid (below_then HB.out HS.out)
  have HG3 := Lib.hid ((HS.out.block _ (lt_of_cells HG.out)).trans HG.out)
  clear hd8 hb3
  go_wp2
  refine HKK.out _ _ (fun _ _ => HS.out) ?_
  refine wpK_one 12 rfl (by kernel_rfl) (fun K hK => ?_)
  have HKK := Lib.hid hK
  clear hK
  refine wpList_store_row rfl 25 _ _ rfl g5 _ rfl rfl 25 #[.int .i64 2, .int .i64 0, .string s, .slice A9 0 c9] HG3.out (tySizeA _ _ _ _) rfl (one4 _ _ _ _ _ _) ?_
  refine wpList_nil ?_
  refine HKK.out _ _ (fun h => absurd h (by decide)) ?_
  refine wpK_end (by kernel_rfl) ?_ _
  go_upto_region 15 with fail
  obtain ⟨f1, f2⟩ := boxed_end (w := w) (b := g5) (r := #[.int .i64 2, .int .i64 0, .string s, .slice A8 3 c8]) HD8.out HGL.out HWG.out HB3.out
  have f3 := setRow_row (cs := #[.int .i64 2, .int .i64 0, .string s, .slice A8 3 c8]) HG3.out
  obtain ⟨wz, hwz⟩ : ∃ wz, wz = w3.setRow g5 #[.int .i64 2, .int .i64 0, .string s, .slice A8 3 c8] := ⟨_, rfl⟩
  try simp only [Tt.kind, Tt.num, Tt.name, Tt.args, List.length_cons, List.length_nil, Nat.zero_add, Nat.reduceAdd]
  rw [← hwz] at f1 f2 f3 ⊢
  have HZ := Lib.hid f2
  have HGZ := Lib.hid f3
  have HVZ := Lib.hid (show Val wz (.mk 2 0 s [Tt.mk k0 n0 s0 l0, Tt.mk k1 n1 s1 l1, Tt.mk k2 n2 s2 l2]) (.agg #[.int .i64 2, .int .i64 0, .string s, .slice A8 3 c8]) from ⟨A8, c8, rfl, TyR.more (fun b hb => hb.2) f1⟩)
  clear f1 f2 f3 hwz
  have HGA : Hid (∀ W', Below wz.heap.size wz W' → W'.heap[g5]? = some (.cells #[.int .i64 2, .int .i64 0, .string s, .slice A8 3 c8] 25 (0, 0))) := Lib.hid fun W' h => (h.block _ (lt_of_cells HGZ.out)).trans HGZ.out
  go_wp2
  refine wp_region_K (fun w' => Below wz.heap.size wz w') (fun j => true) (by kernel_rfl) ?_
  have HS := Lib.hid (below_drew1 (Below.refl wz.heap.size wz))
  have HVZ := Lib.hid (HVZ.out.on HS.out)
  refine wpK_take (v := .agg #[.int .i64 2, .int .i64 0, .string s, .slice A8 3 c8]) (a' := ?_) 0 rfl (by kernel_rfl) (by kernel_rfl) (by kernel_rfl) (by kernel_rfl) (by kernel_rfl) (fun _ _ _ h => h) HS.out ?_ ?_ ?_
  rotate_left 1
  · exact yieldsIf_load_mid (by kernel_rfl) 25 (.tmp 5) rfl g5 0 (by go_simp) _ _ (fun wS hS => range_row (HGA.out _ hS)) Try.underlying25 rfl (tySize _ _ _ _)
  · go_simp; with_reducible rfl
  refine wpK_take0 (v := ?_) (a' := ?_) 1 rfl (by kernel_rfl) (by kernel_rfl) (by kernel_rfl) (by kernel_rfl) (fun _ _ _ h => h) ?_ ?_ ?_
  rotate_left 2
  · refine .inl ⟨by kernel_rfl, ?_⟩; intro wS hS; clear hS; go_simp; with_reducible rfl
  · go_simp; with_reducible rfl
  refine wpK_take0 (v := ?_) (a' := ?_) 2 rfl (by kernel_rfl) (by kernel_rfl) (by kernel_rfl) (by kernel_rfl) (fun _ _ _ h => h) ?_ ?_ ?_
  rotate_left 2
  · refine .inl ⟨by kernel_rfl, ?_⟩; intro wS hS; clear hS; go_simp; with_reducible rfl
  · go_simp; with_reducible rfl
  have HRW := Lib.hid ((HROWS.out.keep (Same.lt (below_then HZ.out HS.out))).more (fun b hb => Nat.lt_of_lt_of_le hb (below_then HZ.out HS.out).size))
  refine wpK_one 3 rfl (by kernel_rfl) (fun K hK => ?_)
  have HKK := Lib.hid hK
  clear hK
  go_wp2_with fail
  refine (rof_val s [Tt.mk k0 n0 s0 l0, Tt.mk k1 n1 s1 l1, Tt.mk k2 n2 s2 l2] (some ⟨b, o, none⟩) _ hs (by simp) HRW.out).mono ?_
  rintro e w7 ⟨v7, rfl, hv, hb⟩
  have HS := Lib.hid (HS.out.trans (hb.mono HS.out.size))
  have HVZ := Lib.hid (HVZ.out.on hb)
  have HV7 := Lib.hid hv
  clear hb hv
  go_wp2
  refine HKK.out _ _ (fun _ _ => HS.out) ?_
  refine wpK_one 4 rfl (by kernel_rfl) (fun K hK => ?_)
  have HKK := Lib.hid hK
  clear hK
  go_wp2_with fail
  refine (r8self HVZ.out HV7.out).mono ?_
  rintro e w8 ⟨rfl, hb⟩
  have HS := Lib.hid (HS.out.trans (hb.mono HS.out.size))
  clear hb
  go_wp2
  refine HKK.out _ _ (fun _ _ => HS.out) ?_
  refine wpK_take0 (v := ?_) (a' := ?_) 5 rfl (by kernel_rfl) (by kernel_rfl) (by kernel_rfl) (by kernel_rfl) (fun _ _ _ h => h) ?_ ?_ ?_
  rotate_left 2
  · refine .inl ⟨by kernel_rfl, ?_⟩; intro wS hS; clear hS; go_simp; with_reducible rfl
  · go_simp; with_reducible rfl
  refine wpK_one 6 rfl (by kernel_rfl) (fun K hK => ?_)
  have HKK := Lib.hid hK
  clear hK
  go_wp2_with fail
  refine (knows_any _).mono ?_
  rintro e w9 ⟨rfl, hb⟩
  have HS := Lib.hid (HS.out.trans (hb.mono HS.out.size))
  clear hb
  go_wp2
  refine HKK.out _ _ (fun _ _ => HS.out) ?_
  refine wpK_take0 (v := ?_) (a' := ?_) 7 rfl (by kernel_rfl) (by kernel_rfl) (by kernel_rfl) (by kernel_rfl) (fun _ _ _ h => h) ?_ ?_ ?_
  rotate_left 2
  · refine .inl ⟨by kernel_rfl, ?_⟩; intro wS hS; clear hS; go_simp; with_reducible rfl
  · go_simp; with_reducible rfl
  refine wpK_take0 (v := ?_) (a' := ?_) 8 rfl (by kernel_rfl) (by kernel_rfl) (by kernel_rfl) (by kernel_rfl) (fun _ _ _ h => h) ?_ ?_ ?_
  rotate_left 2
  · refine .inl ⟨by kernel_rfl, ?_⟩; intro wS hS; clear hS; go_simp; with_reducible rfl
  · go_simp; with_reducible rfl
  refine wpK_end (by kernel_rfl) ?_ _
  go_wp2
  go_ret
  exact ⟨rfl, below_then HZ.out HS.out⟩
set_option maxRecDepth 100000 in
set_option maxHeartbeats 8000000 in
theorem makes4 (s : ByteArray) (hs : s.size ≤ 1048576) (k0 n0 : Int) (s0 : ByteArray) (l0 : List Tt) (k1 n1 : Int) (s1 : ByteArray) (l1 : List Tt) (k2 n2 : Int) (s2 : ByteArray) (l2 : List Tt) (k3 n3 : Int) (s3 : ByteArray) (l3 : List Tt) (A : Option Addr) (c : Nat) (w : World) (h : Rows TyR 4 w (Lt w.heap.size) A [Tt.mk k0 n0 s0 l0, Tt.mk k1 n1 s1 l1, Tt.mk k2 n2 s2 l2, Tt.mk k3 n3 s3 l3]) :
    Calls Try.prog 4 #[.string s, .slice A 4 c] w fun e w' => e = .returned (.bool true) ∧ Below w.heap.size w w' := by
  obtain ⟨b, o, cs, hA, hSb, hr0, hd0⟩ := h 0 _ rfl
  subst hA
  obtain ⟨A0, c0, hcs, _⟩ := TyR.open_ hd0
  simp only [Tt.kind, Tt.num, Tt.name, Tt.args] at hcs
  subst hcs
  have HR0 : Hid (∀ W', Below w.heap.size w W' → W'.rangeAt b (o + 0 * 4) [.int .i64 k0, .int .i64 n0, .string s0, .slice A0 l0.length c0]) := Lib.hid fun W' h => range_keep hr0 h hSb
  have HD0 := Lib.hid (show Val w (.mk k0 n0 s0 l0) (.agg #[.int .i64 k0, .int .i64 n0, .string s0, .slice A0 l0.length c0]) from ⟨A0, c0, rfl, hd0⟩)
  obtain ⟨b', o', cs, hA, _, hr1, hd1⟩ := h 1 _ rfl
  injection hA with hA; injection hA with hb' ho'; subst hb'; subst ho'
  obtain ⟨A1, c1, hcs, _⟩ := TyR.open_ hd1
  simp only [Tt.kind, Tt.num, Tt.name, Tt.args] at hcs
  subst hcs
  have HR1 : Hid (∀ W', Below w.heap.size w W' → W'.rangeAt b (o + 1 * 4) [.int .i64 k1, .int .i64 n1, .string s1, .slice A1 l1.length c1]) := Lib.hid fun W' h => range_keep hr1 h hSb
  have HD1 := Lib.hid (show Val w (.mk k1 n1 s1 l1) (.agg #[.int .i64 k1, .int .i64 n1, .string s1, .slice A1 l1.length c1]) from ⟨A1, c1, rfl, hd1⟩)
  obtain ⟨b', o', cs, hA, _, hr2, hd2⟩ := h 2 _ rfl
  injection hA with hA; injection hA with hb' ho'; subst hb'; subst ho'
  obtain ⟨A2, c2, hcs, _⟩ := TyR.open_ hd2
  simp only [Tt.kind, Tt.num, Tt.name, Tt.args] at hcs
  subst hcs
  have HR2 : Hid (∀ W', Below w.heap.size w W' → W'.rangeAt b (o + 2 * 4) [.int .i64 k2, .int .i64 n2, .string s2, .slice A2 l2.length c2]) := Lib.hid fun W' h => range_keep hr2 h hSb
  have HD2 := Lib.hid (show Val w (.mk k2 n2 s2 l2) (.agg #[.int .i64 k2, .int .i64 n2, .string s2, .slice A2 l2.length c2]) from ⟨A2, c2, rfl, hd2⟩)
  obtain ⟨b', o', cs, hA, _, hr3, hd3⟩ := h 3 _ rfl
  injection hA with hA; injection hA with hb' ho'; subst hb'; subst ho'
  obtain ⟨A3, c3, hcs, _⟩ := TyR.open_ hd3
  simp only [Tt.kind, Tt.num, Tt.name, Tt.args] at hcs
  subst hcs
  have HR3 : Hid (∀ W', Below w.heap.size w W' → W'.rangeAt b (o + 3 * 4) [.int .i64 k3, .int .i64 n3, .string s3, .slice A3 l3.length c3]) := Lib.hid fun W' h => range_keep hr3 h hSb
  have HD3 := Lib.hid (show Val w (.mk k3 n3 s3 l3) (.agg #[.int .i64 k3, .int .i64 n3, .string s3, .slice A3 l3.length c3]) from ⟨A3, c3, rfl, hd3⟩)
  have HROWS := Lib.hid h
  have HOF := Lib.hid (of_nil (w := w) s hs)
  clear h hr0 hd0 hr1 hd1 hr2 hd2 hr3 hd3 hSb
  go_enter Try.func4, Try.ntmps4
  go_wp2_with fail
  refine HOF.out.mono ?_
  rintro e w1 ⟨v1, rfl, ⟨A9, c9, rfl, hd9⟩, hb1⟩
  simp only [Tt.kind, Tt.num, Tt.name, Tt.args, List.length_nil] at hd9
  simp only [Tt.kind, Tt.num, Tt.name, Tt.args, List.length_nil]
  have hV9 : Val w1 (.mk 2 0 s []) (.agg #[.int .i64 2, .int .i64 0, .string s, .slice A9 0 c9]) := ⟨A9, c9, rfl, hd9⟩
  go_upto_region 14 with fail
  obtain ⟨wr, g5, hwr, hg5⟩ : ∃ wr g5, wr = w1.alloc (.cells #[.int .i64 2, .int .i64 0, .string s, .slice A9 0 c9] 25) ∧ g5 = w1.heap.size := ⟨_, _, rfl, rfl⟩
  have hbr : Below w.heap.size w wr := by rw [hwr]; exact below_then hb1 (below_new _ _)
  have hV9' : Val wr (.mk 2 0 s []) (.agg #[.int .i64 2, .int .i64 0, .string s, .slice A9 0 c9]) := by rw [hwr]; exact hV9.on (below_new _ _)
  have hgr : wr.heap[g5]? = some (.cells #[.int .i64 2, .int .i64 0, .string s, .slice A9 0 c9] 25 (0, 0)) := by rw [hwr, hg5]; exact heap_alloc_new _ _
  have hwg : w.heap.size ≤ g5 := by rw [hg5]; exact hb1.size
  rw [← hwr, ← hg5]
  have HB := Lib.hid hbr
  have HV := Lib.hid hV9'
  have HG := Lib.hid hgr
  have HWG := Lib.hid hwg
  clear hwr hg5 hbr hV9 hV9' hgr hb1 hd9 hwg
  refine wp_region_K (fun w' => Below wr.heap.size wr w') (fun j => j != 15) (by kernel_rfl) ?_
  have HS := Lib.hid (below_drew1 (Below.refl wr.heap.size wr))
  refine wpK_take0 (v := ?_) (a' := ?_) 0 rfl (by kernel_rfl) (by kernel_rfl) (by kernel_rfl) (by kernel_rfl) (fun _ _ _ h => h) ?_ ?_ ?_
  rotate_left 2
  · refine .inl ⟨by kernel_rfl, ?_⟩; intro wS hS; clear hS; go_simp; with_reducible rfl
  · go_simp; with_reducible rfl
  refine wpK_take0 (v := ?_) (a' := ?_) 1 rfl (by kernel_rfl) (by kernel_rfl) (by kernel_rfl) (by kernel_rfl) (fun _ _ _ h => h) ?_ ?_ ?_
  rotate_left 2
  · refine .inl ⟨by kernel_rfl, ?_⟩; intro wS hS; clear hS; go_simp; with_reducible rfl
  · go_simp; with_reducible rfl
  refine wpK_take0 (v := ?_) (a' := ?_) 2 rfl (by kernel_rfl) (by kernel_rfl) (by kernel_rfl) (by kernel_rfl) (fun _ _ _ h => h) ?_ ?_ ?_
  rotate_left 2
  · refine .inl ⟨by kernel_rfl, ?_⟩; intro wS hS; clear hS; go_simp; with_reducible rfl
  · go_simp; with_reducible rfl
  refine wpK_take (v := .agg #[.int .i64 k0, .int .i64 n0, .string s0, .slice A0 l0.length c0]) (a' := ?_) 3 rfl (by kernel_rfl) (by kernel_rfl) (by kernel_rfl) (by kernel_rfl) (by kernel_rfl) (fun _ _ _ h => h) HS.out ?_ ?_ ?_
  rotate_left 1
  · exact yieldsIf_load_mid (by kernel_rfl) 25 (.tmp 68) rfl b (o + 0 * 4) (by go_simp) _ _ (fun wS hS => HR0.out _ (HB.out.trans (hS.mono HB.out.size))) Try.underlying25 rfl (tySize _ _ _ _)
  · go_simp; with_reducible rfl
  refine wpK_take0 (v := ?_) (a' := ?_) 4 rfl (by kernel_rfl) (by kernel_rfl) (by kernel_rfl) (by kernel_rfl) (fun _ _ _ h => h) ?_ ?_ ?_
  rotate_left 2
  · refine .inl ⟨by kernel_rfl, ?_⟩; intro wS hS; clear hS; go_simp; with_reducible rfl
  · go_simp; with_reducible rfl
  refine wpK_take0 (v := ?_) (a' := ?_) 5 rfl (by kernel_rfl) (by kernel_rfl) (by kernel_rfl) (by kernel_rfl) (fun _ _ _ h => h) ?_ ?_ ?_
  rotate_left 2
  · refine .inl ⟨by kernel_rfl, ?_⟩; intro wS hS; clear hS; go_simp; with_reducible rfl
  · go_simp; with_reducible rfl
  refine wpK_take (v := .agg #[.int .i64 k1, .int .i64 n1, .string s1, .slice A1 l1.length c1]) (a' := ?_) 6 rfl (by kernel_rfl) (by kernel_rfl) (by kernel_rfl) (by kernel_rfl) (by kernel_rfl) (fun _ _ _ h => h) HS.out ?_ ?_ ?_
  rotate_left 1
  · exact yieldsIf_load_mid (by kernel_rfl) 25 (.tmp 71) rfl b (o + 1 * 4) (by go_simp) _ _ (fun wS hS => HR1.out _ (HB.out.trans (hS.mono HB.out.size))) Try.underlying25 rfl (tySize _ _ _ _)
  · go_simp; with_reducible rfl
  refine wpK_take0 (v := ?_) (a' := ?_) 7 rfl (by kernel_rfl) (by kernel_rfl) (by kernel_rfl) (by kernel_rfl) (fun _ _ _ h => h) ?_ ?_ ?_
  rotate_left 2
  · refine .inl ⟨by kernel_rfl, ?_⟩; intro wS hS; clear hS; go_simp; with_reducible rfl
  · go_simp; with_reducible rfl
  refine wpK_take0 (v := ?_) (a' := ?_) 8 rfl (by kernel_rfl) (by kernel_rfl) (by kernel_rfl) (by kernel_rfl) (fun _ _ _ h => h) ?_ ?_ ?_
  rotate_left 2
  · refine .inl ⟨by kernel_rfl, ?_⟩; intro wS hS; clear hS; go_simp; with_reducible rfl
  · go_simp; with_reducible rfl
  refine wpK_take (v := .agg #[.int .i64 k2, .int .i64 n2, .string s2, .slice A2 l2.length c2]) (a' := ?_) 9 rfl (by kernel_rfl) (by kernel_rfl) (by kernel_rfl) (by kernel_rfl) (by kernel_rfl) (fun _ _ _ h => h) HS.out ?_ ?_ ?_
  rotate_left 1
  · exact yieldsIf_load_mid (by kernel_rfl) 25 (.tmp 74) rfl b (o + 2 * 4) (by go_simp) _ _ (fun wS hS => HR2.out _ (HB.out.trans (hS.mono HB.out.size))) Try.underlying25 rfl (tySize _ _ _ _)
  · go_simp; with_reducible rfl
  refine wpK_take0 (v := ?_) (a' := ?_) 10 rfl (by kernel_rfl) (by kernel_rfl) (by kernel_rfl) (by kernel_rfl) (fun _ _ _ h => h) ?_ ?_ ?_
  rotate_left 2
  · refine .inl ⟨by kernel_rfl, ?_⟩; intro wS hS; clear hS; go_simp; with_reducible rfl
  · go_simp; with_reducible rfl
  refine wpK_take0 (v := ?_) (a' := ?_) 11 rfl (by kernel_rfl) (by kernel_rfl) (by kernel_rfl) (by kernel_rfl) (fun _ _ _ h => h) ?_ ?_ ?_
  rotate_left 2
  · refine .inl ⟨by kernel_rfl, ?_⟩; intro wS hS; clear hS; go_simp; with_reducible rfl
  · go_simp; with_reducible rfl
  refine wpK_take (v := .agg #[.int .i64 k3, .int .i64 n3, .string s3, .slice A3 l3.length c3]) (a' := ?_) 12 rfl (by kernel_rfl) (by kernel_rfl) (by kernel_rfl) (by kernel_rfl) (by kernel_rfl) (fun _ _ _ h => h) HS.out ?_ ?_ ?_
  rotate_left 1
  · exact yieldsIf_load_mid (by kernel_rfl) 25 (.tmp 77) rfl b (o + 3 * 4) (by go_simp) _ _ (fun wS hS => HR3.out _ (HB.out.trans (hS.mono HB.out.size))) Try.underlying25 rfl (tySize _ _ _ _)
  · go_simp; with_reducible rfl
  refine wpK_one 13 rfl (by kernel_rfl) (fun K hK => ?_)
  have HKK := Lib.hid hK
  clear hK
  go_wp2
  obtain ⟨wx, hwx⟩ : ∃ wx, wx = (wr.alloc (.cells #[.int .i64 k0, .int .i64 n0, .string s0, .slice A0 l0.length c0, .int .i64 k1, .int .i64 n1, .string s1, .slice A1 l1.length c1, .int .i64 k2, .int .i64 n2, .string s2, .slice A2 l2.length c2, .int .i64 k3, .int .i64 n3, .string s3, .slice A3 l3.length c3] 25)).drew := ⟨_, rfl⟩
  have hbx : Below wr.heap.size wr wx := by rw [hwx]; exact below_drew1 (below_new _ _)
  have hgx : wx.heap[wr.heap.size]? = some (.cells #[.int .i64 k0, .int .i64 n0, .string s0, .slice A0 l0.length c0, .int .i64 k1, .int .i64 n1, .string s1, .slice A1 l1.length c1, .int .i64 k2, .int .i64 n2, .string s2, .slice A2 l2.length c2, .int .i64 k3, .int .i64 n3, .string s3, .slice A3 l3.length c3] 25 (0, 0)) := by rw [hwx]; exact heap_alloc_new _ _
  have HS := Lib.hid hbx
  have HGL := Lib.hid (Nat.lt_of_lt_of_le (lt_of_cells HG.out) hbx.size)
  rw [← hwx]
  refine HKK.out _ _ (fun _ _ => HS.out) ?_
  have HCALL := Lib.hid (of_any s [Tt.mk k0 n0 s0 l0, Tt.mk k1 n1 s1 l1, Tt.mk k2 n2 s2 l2, Tt.mk k3 n3 s3 l3] (some ⟨wr.heap.size, 0, none⟩) 4 wx _ (fun _ h => h) hs (by simp) (built4 hgx hbx (HD0.out.on HB.out) (HD1.out.on HB.out) (HD2.out.on HB.out) (HD3.out.on HB.out)))
  clear hbx hgx hwx
  refine wpK_one 14 rfl (by kernel_rfl) (fun K hK => ?_)
  have HKK := Lib.hid hK
  clear hK
  go_wp2_with fail
  refine HCALL.out.mono ?_
  rintro e w3 ⟨A8, c8, rfl, hd8, hb3⟩
  have HD8 := Lib.hid hd8
  have HS := Lib.hid (HS.out.trans (hb3.mono HS.out.size))
  have HB3 := Lib.hid (below_then HB.out HS.out)
  have HG3 := Lib.hid ((HS.out.block _ (lt_of_cells HG.out)).trans HG.out)
  clear hd8 hb3
  go_wp2
  refine HKK.out _ _ (fun _ _ => HS.out) ?_
  refine wpK_one 15 rfl (by kernel_rfl) (fun K hK => ?_)
  have HKK := Lib.hid hK
  clear hK
  refine wpList_store_row rfl 25 _ _ rfl g5 _ rfl rfl 25 #[.int .i64 2, .int .i64 0, .string s, .slice A9 0 c9] HG3.out (tySizeA _ _ _ _) rfl (one4 _ _ _ _ _ _) ?_
  refine wpList_nil ?_
  refine HKK.out _ _ (fun h => absurd h (by decide)) ?_
  refine wpK_end (by kernel_rfl) ?_ _
  go_upto_region 15 with fail
  obtain ⟨f1, f2⟩ := boxed_end (w := w) (b := g5) (r := #[.int .i64 2, .int .i64 0, .string s, .slice A8 4 c8]) HD8.out HGL.out HWG.out HB3.out
  have f3 := setRow_row (cs := #[.int .i64 2, .int .i64 0, .string s, .slice A8 4 c8]) HG3.out
  obtain ⟨wz, hwz⟩ : ∃ wz, wz = w3.setRow g5 #[.int .i64 2, .int .i64 0, .string s, .slice A8 4 c8] := ⟨_, rfl⟩
  try simp only [Tt.kind, Tt.num, Tt.name, Tt.args, List.length_cons, List.length_nil, Nat.zero_add, Nat.reduceAdd]
  rw [← hwz] at f1 f2 f3 ⊢
  have HZ := Lib.hid f2
  have HGZ := Lib.hid f3
  have HVZ := Lib.hid (show Val wz (.mk 2 0 s [Tt.mk k0 n0 s0 l0, Tt.mk k1 n1 s1 l1, Tt.mk k2 n2 s2 l2, Tt.mk k3 n3 s3 l3]) (.agg #[.int .i64 2, .int .i64 0, .string s, .slice A8 4 c8]) from ⟨A8, c8, rfl, TyR.more (fun b hb => hb.2) f1⟩)
  clear f1 f2 f3 hwz
  have HGA : Hid (∀ W', Below wz.heap.size wz W' → W'.heap[g5]? = some (.cells #[.int .i64 2, .int .i64 0, .string s, .slice A8 4 c8] 25 (0, 0))) := Lib.hid fun W' h => (h.block _ (lt_of_cells HGZ.out)).trans HGZ.out
  go_wp2
  refine wp_region_K (fun w' => Below wz.heap.size wz w') (fun j => true) (by kernel_rfl) ?_
  have HS := Lib.hid (below_drew1 (Below.refl wz.heap.size wz))
  have HVZ := Lib.hid (HVZ.out.on HS.out)
  refine wpK_take (v := .agg #[.int .i64 2, .int .i64 0, .string s, .slice A8 4 c8]) (a' := ?_) 0 rfl (by kernel_rfl) (by kernel_rfl) (by kernel_rfl) (by kernel_rfl) (by kernel_rfl) (fun _ _ _ h => h) HS.out ?_ ?_ ?_
  rotate_left 1
  · exact yieldsIf_load_mid (by kernel_rfl) 25 (.tmp 5) rfl g5 0 (by go_simp) _ _ (fun wS hS => range_row (HGA.out _ hS)) Try.underlying25 rfl (tySize _ _ _ _)
  · go_simp; with_reducible rfl
  refine wpK_take0 (v := ?_) (a' := ?_) 1 rfl (by kernel_rfl) (by kernel_rfl) (by kernel_rfl) (by kernel_rfl) (fun _ _ _ h => h) ?_ ?_ ?_
  rotate_left 2
  · refine .inl ⟨by kernel_rfl, ?_⟩; intro wS hS; clear hS; go_simp; with_reducible rfl
  · go_simp; with_reducible rfl
  refine wpK_take0 (v := ?_) (a' := ?_) 2 rfl (by kernel_rfl) (by kernel_rfl) (by kernel_rfl) (by kernel_rfl) (fun _ _ _ h => h) ?_ ?_ ?_
  rotate_left 2
  · refine .inl ⟨by kernel_rfl, ?_⟩; intro wS hS; clear hS; go_simp; with_reducible rfl
  · go_simp; with_reducible rfl
  have HRW := Lib.hid ((HROWS.out.keep (Same.lt (below_then HZ.out HS.out))).more (fun b hb => Nat.lt_of_lt_of_le hb (below_then HZ.out HS.out).size))
  refine wpK_one 3 rfl (by kernel_rfl) (fun K hK => ?_)
  have HKK := Lib.hid hK
  clear hK
  go_wp2_with fail
  refine (rof_val s [Tt.mk k0 n0 s0 l0, Tt.mk k1 n1 s1 l1, Tt.mk k2 n2 s2 l2, Tt.mk k3 n3 s3 l3] (some ⟨b, o, none⟩) _ hs (by simp) HRW.out).mono ?_
  rintro e w7 ⟨v7, rfl, hv, hb⟩
  have HS := Lib.hid (HS.out.trans (hb.mono HS.out.size))
  have HVZ := Lib.hid (HVZ.out.on hb)
  have HV7 := Lib.hid hv
  clear hb hv
  go_wp2
  refine HKK.out _ _ (fun _ _ => HS.out) ?_
  refine wpK_one 4 rfl (by kernel_rfl) (fun K hK => ?_)
  have HKK := Lib.hid hK
  clear hK
  go_wp2_with fail
  refine (r8self HVZ.out HV7.out).mono ?_
  rintro e w8 ⟨rfl, hb⟩
  have HS := Lib.hid (HS.out.trans (hb.mono HS.out.size))
  clear hb
  go_wp2
  refine HKK.out _ _ (fun _ _ => HS.out) ?_
  refine wpK_take0 (v := ?_) (a' := ?_) 5 rfl (by kernel_rfl) (by kernel_rfl) (by kernel_rfl) (by kernel_rfl) (fun _ _ _ h => h) ?_ ?_ ?_
  rotate_left 2
  · refine .inl ⟨by kernel_rfl, ?_⟩; intro wS hS; clear hS; go_simp; with_reducible rfl
  · go_simp; with_reducible rfl
  refine wpK_one 6 rfl (by kernel_rfl) (fun K hK => ?_)
  have HKK := Lib.hid hK
  clear hK
  go_wp2_with fail
  refine (knows_any _).mono ?_
  rintro e w9 ⟨rfl, hb⟩
  have HS := Lib.hid (HS.out.trans (hb.mono HS.out.size))
  clear hb
  go_wp2
  refine HKK.out _ _ (fun _ _ => HS.out) ?_
  refine wpK_take0 (v := ?_) (a' := ?_) 7 rfl (by kernel_rfl) (by kernel_rfl) (by kernel_rfl) (by kernel_rfl) (fun _ _ _ h => h) ?_ ?_ ?_
  rotate_left 2
  · refine .inl ⟨by kernel_rfl, ?_⟩; intro wS hS; clear hS; go_simp; with_reducible rfl
  · go_simp; with_reducible rfl
  refine wpK_take0 (v := ?_) (a' := ?_) 8 rfl (by kernel_rfl) (by kernel_rfl) (by kernel_rfl) (by kernel_rfl) (fun _ _ _ h => h) ?_ ?_ ?_
  rotate_left 2
  · refine .inl ⟨by kernel_rfl, ?_⟩; intro wS hS; clear hS; go_simp; with_reducible rfl
  · go_simp; with_reducible rfl
  refine wpK_end (by kernel_rfl) ?_ _
  go_wp2
  go_ret
  exact ⟨rfl, below_then HZ.out HS.out⟩
set_option maxRecDepth 100000 in
set_option maxHeartbeats 8000000 in
theorem makes4s (s : ByteArray) (hs : s.size ≤ 1048576) (k0 n0 : Int) (s0 : ByteArray) (l0 : List Tt) (k1 n1 : Int) (s1 : ByteArray) (l1 : List Tt) (k2 n2 : Int) (s2 : ByteArray) (l2 : List Tt) (k3 n3 : Int) (s3 : ByteArray) (l3 : List Tt) (A : Option Addr) (c : Nat) (m : Nat) (hm : 4 < m) (hm2 : m ≤ 1048576) (hmc : m ≤ c) (hc : c ≤ maxLen) (w : World) (h : Rows TyR 4 w (Lt w.heap.size) A [Tt.mk k0 n0 s0 l0, Tt.mk k1 n1 s1 l1, Tt.mk k2 n2 s2 l2, Tt.mk k3 n3 s3 l3]) :
    Calls Try.prog 4 #[.string s, .slice A m c] w fun e w' => e = .returned (.bool true) ∧ Below w.heap.size w w' := by
  obtain ⟨b, o, cs, hA, hSb, hr0, hd0⟩ := h 0 _ rfl
  subst hA
  obtain ⟨A0, c0, hcs, _⟩ := TyR.open_ hd0
  simp only [Tt.kind, Tt.num, Tt.name, Tt.args] at hcs
  subst hcs
  have HR0 : Hid (∀ W', Below w.heap.size w W' → W'.rangeAt b (o + 0 * 4) [.int .i64 k0, .int .i64 n0, .string s0, .slice A0 l0.length c0]) := Lib.hid fun W' h => range_keep hr0 h hSb
  have HD0 := Lib.hid (show Val w (.mk k0 n0 s0 l0) (.agg #[.int .i64 k0, .int .i64 n0, .string s0, .slice A0 l0.length c0]) from ⟨A0, c0, rfl, hd0⟩)
  obtain ⟨b', o', cs, hA, _, hr1, hd1⟩ := h 1 _ rfl
  injection hA with hA; injection hA with hb' ho'; subst hb'; subst ho'
  obtain ⟨A1, c1, hcs, _⟩ := TyR.open_ hd1
  simp only [Tt.kind, Tt.num, Tt.name, Tt.args] at hcs
  subst hcs
  have HR1 : Hid (∀ W', Below w.heap.size w W' → W'.rangeAt b (o + 1 * 4) [.int .i64 k1, .int .i64 n1, .string s1, .slice A1 l1.length c1]) := Lib.hid fun W' h => range_keep hr1 h hSb
  have HD1 := Lib.hid (show Val w (.mk k1 n1 s1 l1) (.agg #[.int .i64 k1, .int .i64 n1, .string s1, .slice A1 l1.length c1]) from ⟨A1, c1, rfl, hd1⟩)
  obtain ⟨b', o', cs, hA, _, hr2, hd2⟩ := h 2 _ rfl
  injection hA with hA; injection hA with hb' ho'; subst hb'; subst ho'
  obtain ⟨A2, c2, hcs, _⟩ := TyR.open_ hd2
  simp only [Tt.kind, Tt.num, Tt.name, Tt.args] at hcs
  subst hcs
  have HR2 : Hid (∀ W', Below w.heap.size w W' → W'.rangeAt b (o + 2 * 4) [.int .i64 k2, .int .i64 n2, .string s2, .slice A2 l2.length c2]) := Lib.hid fun W' h => range_keep hr2 h hSb
  have HD2 := Lib.hid (show Val w (.mk k2 n2 s2 l2) (.agg #[.int .i64 k2, .int .i64 n2, .string s2, .slice A2 l2.length c2]) from ⟨A2, c2, rfl, hd2⟩)
  obtain ⟨b', o', cs, hA, _, hr3, hd3⟩ := h 3 _ rfl
  injection hA with hA; injection hA with hb' ho'; subst hb'; subst ho'
  obtain ⟨A3, c3, hcs, _⟩ := TyR.open_ hd3
  simp only [Tt.kind, Tt.num, Tt.name, Tt.args] at hcs
  subst hcs
  have HR3 : Hid (∀ W', Below w.heap.size w W' → W'.rangeAt b (o + 3 * 4) [.int .i64 k3, .int .i64 n3, .string s3, .slice A3 l3.length c3]) := Lib.hid fun W' h => range_keep hr3 h hSb
  have HD3 := Lib.hid (show Val w (.mk k3 n3 s3 l3) (.agg #[.int .i64 k3, .int .i64 n3, .string s3, .slice A3 l3.length c3]) from ⟨A3, c3, rfl, hd3⟩)
  have HROWS := Lib.hid h
  have HOF := Lib.hid (of_nil (w := w) s hs)
  clear h hr0 hd0 hr1 hd1 hr2 hd2 hr3 hd3 hSb
  have q4 : (4 : Int) < m := by omega
  have q5 : 4 ≤ c := by omega
  unfold maxLen at hc
  go_enter Try.func4, Try.ntmps4
  go_wp2_with fail
  refine HOF.out.mono ?_
  rintro e w1 ⟨v1, rfl, ⟨A9, c9, rfl, hd9⟩, hb1⟩
  simp only [Tt.kind, Tt.num, Tt.name, Tt.args, List.length_nil] at hd9
  simp only [Tt.kind, Tt.num, Tt.name, Tt.args, List.length_nil]
  have hV9 : Val w1 (.mk 2 0 s []) (.agg #[.int .i64 2, .int .i64 0, .string s, .slice A9 0 c9]) := ⟨A9, c9, rfl, hd9⟩
  go_upto_region 14 with fail
  obtain ⟨wr, g5, hwr, hg5⟩ : ∃ wr g5, wr = w1.alloc (.cells #[.int .i64 2, .int .i64 0, .string s, .slice A9 0 c9] 25) ∧ g5 = w1.heap.size := ⟨_, _, rfl, rfl⟩
  have hbr : Below w.heap.size w wr := by rw [hwr]; exact below_then hb1 (below_new _ _)
  have hV9' : Val wr (.mk 2 0 s []) (.agg #[.int .i64 2, .int .i64 0, .string s, .slice A9 0 c9]) := by rw [hwr]; exact hV9.on (below_new _ _)
  have hgr : wr.heap[g5]? = some (.cells #[.int .i64 2, .int .i64 0, .string s, .slice A9 0 c9] 25 (0, 0)) := by rw [hwr, hg5]; exact heap_alloc_new _ _
  have hwg : w.heap.size ≤ g5 := by rw [hg5]; exact hb1.size
  rw [← hwr, ← hg5]
  have HB := Lib.hid hbr
  have HV := Lib.hid hV9'
  have HG := Lib.hid hgr
  have HWG := Lib.hid hwg
  clear hwr hg5 hbr hV9 hV9' hgr hb1 hd9 hwg
  refine wp_region_K (fun w' => Below wr.heap.size wr w') (fun j => j != 15) (by kernel_rfl) ?_
  have HS := Lib.hid (below_drew1 (Below.refl wr.heap.size wr))
  refine wpK_take0 (v := ?_) (a' := ?_) 0 rfl (by kernel_rfl) (by kernel_rfl) (by kernel_rfl) (by kernel_rfl) (fun _ _ _ h => h) ?_ ?_ ?_
  rotate_left 2
  · refine .inl ⟨by kernel_rfl, ?_⟩; intro wS hS; clear hS; go_simp; with_reducible rfl
  · go_simp; with_reducible rfl
  refine wpK_take0 (v := ?_) (a' := ?_) 1 rfl (by kernel_rfl) (by kernel_rfl) (by kernel_rfl) (by kernel_rfl) (fun _ _ _ h => h) ?_ ?_ ?_
  rotate_left 2
  · refine .inl ⟨by kernel_rfl, ?_⟩; intro wS hS; clear hS; go_simp; with_reducible rfl
  · go_simp; with_reducible rfl
  refine wpK_take0 (v := ?_) (a' := ?_) 2 rfl (by kernel_rfl) (by kernel_rfl) (by kernel_rfl) (by kernel_rfl) (fun _ _ _ h => h) ?_ ?_ ?_
  rotate_left 2
  · refine .inl ⟨by kernel_rfl, ?_⟩; intro wS hS; clear hS; go_simp; with_reducible rfl
  · go_simp; with_reducible rfl
  refine wpK_take (v := .agg #[.int .i64 k0, .int .i64 n0, .string s0, .slice A0 l0.length c0]) (a' := ?_) 3 rfl (by kernel_rfl) (by kernel_rfl) (by kernel_rfl) (by kernel_rfl) (by kernel_rfl) (fun _ _ _ h => h) HS.out ?_ ?_ ?_
  rotate_left 1
  · exact yieldsIf_load_mid (by kernel_rfl) 25 (.tmp 68) rfl b (o + 0 * 4) (by go_simp) _ _ (fun wS hS => HR0.out _ (HB.out.trans (hS.mono HB.out.size))) Try.underlying25 rfl (tySize _ _ _ _)
  · go_simp; with_reducible rfl
  refine wpK_take0 (v := ?_) (a' := ?_) 4 rfl (by kernel_rfl) (by kernel_rfl) (by kernel_rfl) (by kernel_rfl) (fun _ _ _ h => h) ?_ ?_ ?_
  rotate_left 2
  · refine .inl ⟨by kernel_rfl, ?_⟩; intro wS hS; clear hS; go_simp; with_reducible rfl
  · go_simp; with_reducible rfl
  refine wpK_take0 (v := ?_) (a' := ?_) 5 rfl (by kernel_rfl) (by kernel_rfl) (by kernel_rfl) (by kernel_rfl) (fun _ _ _ h => h) ?_ ?_ ?_
  rotate_left 2
  · refine .inl ⟨by kernel_rfl, ?_⟩; intro wS hS; clear hS; go_simp; with_reducible rfl
  · go_simp; with_reducible rfl
  refine wpK_take (v := .agg #[.int .i64 k1, .int .i64 n1, .string s1, .slice A1 l1.length c1]) (a' := ?_) 6 rfl (by kernel_rfl) (by kernel_rfl) (by kernel_rfl) (by kernel_rfl) (by kernel_rfl) (fun _ _ _ h => h) HS.out ?_ ?_ ?_
  rotate_left 1
  · exact yieldsIf_load_mid (by kernel_rfl) 25 (.tmp 71) rfl b (o + 1 * 4) (by go_simp) _ _ (fun wS hS => HR1.out _ (HB.out.trans (hS.mono HB.out.size))) Try.underlying25 rfl (tySize _ _ _ _)
  · go_simp; with_reducible rfl
  refine wpK_take0 (v := ?_) (a' := ?_) 7 rfl (by kernel_rfl) (by kernel_rfl) (by kernel_rfl) (by kernel_rfl) (fun _ _ _ h => h) ?_ ?_ ?_
  rotate_left 2
  · refine .inl ⟨by kernel_rfl, ?_⟩; intro wS hS; clear hS; go_simp; with_reducible rfl
  · go_simp; with_reducible rfl
  refine wpK_take0 (v := ?_) (a' := ?_) 8 rfl (by kernel_rfl) (by kernel_rfl) (by kernel_rfl) (by kernel_rfl) (fun _ _ _ h => h) ?_ ?_ ?_
  rotate_left 2
  · refine .inl ⟨by kernel_rfl, ?_⟩; intro wS hS; clear hS; go_simp; with_reducible rfl
  · go_simp; with_reducible rfl
  refine wpK_take (v := .agg #[.int .i64 k2, .int .i64 n2, .string s2, .slice A2 l2.length c2]) (a' := ?_) 9 rfl (by kernel_rfl) (by kernel_rfl) (by kernel_rfl) (by kernel_rfl) (by kernel_rfl) (fun _ _ _ h => h) HS.out ?_ ?_ ?_
  rotate_left 1
  · exact yieldsIf_load_mid (by kernel_rfl) 25 (.tmp 74) rfl b (o + 2 * 4) (by go_simp) _ _ (fun wS hS => HR2.out _ (HB.out.trans (hS.mono HB.out.size))) Try.underlying25 rfl (tySize _ _ _ _)
  · go_simp; with_reducible rfl
  refine wpK_take0 (v := ?_) (a' := ?_) 10 rfl (by kernel_rfl) (by kernel_rfl) (by kernel_rfl) (by kernel_rfl) (fun _ _ _ h => h) ?_ ?_ ?_
  rotate_left 2
  · refine .inl ⟨by kernel_rfl, ?_⟩; intro wS hS; clear hS; go_simp; with_reducible rfl
  · go_simp; with_reducible rfl
  refine wpK_take0 (v := ?_) (a' := ?_) 11 rfl (by kernel_rfl) (by kernel_rfl) (by kernel_rfl) (by kernel_rfl) (fun _ _ _ h => h) ?_ ?_ ?_
  rotate_left 2
  · refine .inl ⟨by kernel_rfl, ?_⟩; intro wS hS; clear hS; go_simp; with_reducible rfl
  · go_simp; with_reducible rfl
  refine wpK_take (v := .agg #[.int .i64 k3, .int .i64 n3, .string s3, .slice A3 l3.length c3]) (a' := ?_) 12 rfl (by kernel_rfl) (by kernel_rfl) (by kernel_rfl) (by kernel_rfl) (by kernel_rfl) (fun _ _ _ h => h) HS.out ?_ ?_ ?_
  rotate_left 1
  · exact yieldsIf_load_mid (by kernel_rfl) 25 (.tmp 77) rfl b (o + 3 * 4) (by go_simp) _ _ (fun wS hS => HR3.out _ (HB.out.trans (hS.mono HB.out.size))) Try.underlying25 rfl (tySize _ _ _ _)
  · go_simp; with_reducible rfl
  refine wpK_one 13 rfl (by kernel_rfl) (fun K hK => ?_)
  have HKK := Lib.hid hK
  clear hK
  go_wp2
  obtain ⟨wx, hwx⟩ : ∃ wx, wx = (wr.alloc (.cells #[.int .i64 k0, .int .i64 n0, .string s0, .slice A0 l0.length c0, .int .i64 k1, .int .i64 n1, .string s1, .slice A1 l1.length c1, .int .i64 k2, .int .i64 n2, .string s2, .slice A2 l2.length c2, .int .i64 k3, .int .i64 n3, .string s3, .slice A3 l3.length c3] 25)).drew := ⟨_, rfl⟩
  have hbx : Below wr.heap.size wr wx := by rw [hwx]; exact below_drew1 (below_new _ _)
  have hgx : wx.heap[wr.heap.size]? = some (.cells #[.int .i64 k0, .int .i64 n0, .string s0, .slice A0 l0.length c0, .int .i64 k1, .int .i64 n1, .string s1, .slice A1 l1.length c1, .int .i64 k2, .int .i64 n2, .string s2, .slice A2 l2.length c2, .int .i64 k3, .int .i64 n3, .string s3, .slice A3 l3.length c3] 25 (0, 0)) := by rw [hwx]; exact heap_alloc_new _ _
  have HS := Lib.hid hbx
  have HGL := Lib.hid (Nat.lt_of_lt_of_le (lt_of_cells HG.out) hbx.size)
  rw [← hwx]
  refine HKK.out _ _ (fun _ _ => HS.out) ?_
  have HCALL := Lib.hid (of_any s [Tt.mk k0 n0 s0 l0, Tt.mk k1 n1 s1 l1, Tt.mk k2 n2 s2 l2, Tt.mk k3 n3 s3 l3] (some ⟨wr.heap.size, 0, none⟩) 4 wx _ (fun _ h => h) hs (by simp) (built4 hgx hbx (HD0.out.on HB.out) (HD1.out.on HB.out) (HD2.out.on HB.out) (HD3.out.on HB.out)))
  clear hbx hgx hwx
  refine wpK_one 14 rfl (by kernel_rfl) (fun K hK => ?_)
  have HKK := Lib.hid hK
  clear hK
  go_wp2_with fail
  refine HCALL.out.mono ?_
  rintro e w3 ⟨A8, c8, rfl, hd8, hb3⟩
  have HD8 := Lib.hid hd8
  have HS := Lib.hid (HS.out.trans (hb3.mono HS.out.size))
  have HB3 := Lib.hid (below_then HB.out HS.out)
  have HG3 := Lib.hid ((HS.out.block _ (lt_of_cells HG.out)).trans HG.out)
  clear hd8 hb3
  go_wp2
  refine HKK.out _ _ (fun _ _ => HS.out) ?_
  refine wpK_one 15 rfl (by kernel_rfl) (fun K hK => ?_)
  have HKK := Lib.hid hK
  clear hK
  refine wpList_store_row rfl 25 _ _ rfl g5 _ rfl rfl 25 #[.int .i64 2, .int .i64 0, .string s, .slice A9 0 c9] HG3.out (tySizeA _ _ _ _) rfl (one4 _ _ _ _ _ _) ?_
  refine wpList_nil ?_
  refine HKK.out _ _ (fun h => absurd h (by decide)) ?_
  refine wpK_end (by kernel_rfl) ?_ _
  go_upto_region 15 with fail
  obtain ⟨f1, f2⟩ := boxed_end (w := w) (b := g5) (r := #[.int .i64 2, .int .i64 0, .string s, .slice A8 4 c8]) HD8.out HGL.out HWG.out HB3.out
  have f3 := setRow_row (cs := #[.int .i64 2, .int .i64 0, .string s, .slice A8 4 c8]) HG3.out
  obtain ⟨wz, hwz⟩ : ∃ wz, wz = w3.setRow g5 #[.int .i64 2, .int .i64 0, .string s, .slice A8 4 c8] := ⟨_, rfl⟩
  try simp only [Tt.kind, Tt.num, Tt.name, Tt.args, List.length_cons, List.length_nil, Nat.zero_add, Nat.reduceAdd]
  rw [← hwz] at f1 f2 f3 ⊢
  have HZ := Lib.hid f2
  have HGZ := Lib.hid f3
  have HVZ := Lib.hid (show Val wz (.mk 2 0 s [Tt.mk k0 n0 s0 l0, Tt.mk k1 n1 s1 l1, Tt.mk k2 n2 s2 l2, Tt.mk k3 n3 s3 l3]) (.agg #[.int .i64 2, .int .i64 0, .string s, .slice A8 4 c8]) from ⟨A8, c8, rfl, TyR.more (fun b hb => hb.2) f1⟩)
  clear f1 f2 f3 hwz
  have HGA : Hid (∀ W', Below wz.heap.size wz W' → W'.heap[g5]? = some (.cells #[.int .i64 2, .int .i64 0, .string s, .slice A8 4 c8] 25 (0, 0))) := Lib.hid fun W' h => (h.block _ (lt_of_cells HGZ.out)).trans HGZ.out
  go_wp2
  refine wp_region_K (fun w' => Below wz.heap.size wz w') (fun j => true) (by kernel_rfl) ?_
  have HS := Lib.hid (below_drew1 (Below.refl wz.heap.size wz))
  have HVZ := Lib.hid (HVZ.out.on HS.out)
  refine wpK_take (v := .agg #[.int .i64 2, .int .i64 0, .string s, .slice A8 4 c8]) (a' := ?_) 0 rfl (by kernel_rfl) (by kernel_rfl) (by kernel_rfl) (by kernel_rfl) (by kernel_rfl) (fun _ _ _ h => h) HS.out ?_ ?_ ?_
  rotate_left 1
  · exact yieldsIf_load_mid (by kernel_rfl) 25 (.tmp 5) rfl g5 0 (by go_simp) _ _ (fun wS hS => range_row (HGA.out _ hS)) Try.underlying25 rfl (tySize _ _ _ _)
  · go_simp; with_reducible rfl
  refine wpK_take0 (v := ?_) (a' := ?_) 1 rfl (by kernel_rfl) (by kernel_rfl) (by kernel_rfl) (by kernel_rfl) (fun _ _ _ h => h) ?_ ?_ ?_
  rotate_left 2
  · refine .inl ⟨by kernel_rfl, ?_⟩; intro wS hS; clear hS; go_simp; with_reducible rfl
  · go_simp; with_reducible rfl
  refine wpK_take0 (v := ?_) (a' := ?_) 2 rfl (by kernel_rfl) (by kernel_rfl) (by kernel_rfl) (by kernel_rfl) (fun _ _ _ h => h) ?_ ?_ ?_
  rotate_left 2
  · refine .inl ⟨by kernel_rfl, ?_⟩; intro wS hS; clear hS; go_simp; with_reducible rfl
  · go_simp; with_reducible rfl
  have HRW := Lib.hid ((HROWS.out.keep (Same.lt (below_then HZ.out HS.out))).more (fun b hb => Nat.lt_of_lt_of_le hb (below_then HZ.out HS.out).size))
  refine wpK_one 3 rfl (by kernel_rfl) (fun K hK => ?_)
  have HKK := Lib.hid hK
  clear hK
  go_wp2_with fail
  refine (rof_val s [Tt.mk k0 n0 s0 l0, Tt.mk k1 n1 s1 l1, Tt.mk k2 n2 s2 l2, Tt.mk k3 n3 s3 l3] (some ⟨b, o, none⟩) _ hs (by simp) HRW.out).mono ?_
  rintro e w7 ⟨v7, rfl, hv, hb⟩
  have HS := Lib.hid (HS.out.trans (hb.mono HS.out.size))
  have HVZ := Lib.hid (HVZ.out.on hb)
  have HV7 := Lib.hid hv
  clear hb hv
  go_wp2
  refine HKK.out _ _ (fun _ _ => HS.out) ?_
  refine wpK_one 4 rfl (by kernel_rfl) (fun K hK => ?_)
  have HKK := Lib.hid hK
  clear hK
  go_wp2_with fail
  refine (r8self HVZ.out HV7.out).mono ?_
  rintro e w8 ⟨rfl, hb⟩
  have HS := Lib.hid (HS.out.trans (hb.mono HS.out.size))
  clear hb
  go_wp2
  refine HKK.out _ _ (fun _ _ => HS.out) ?_
  refine wpK_take0 (v := ?_) (a' := ?_) 5 rfl (by kernel_rfl) (by kernel_rfl) (by kernel_rfl) (by kernel_rfl) (fun _ _ _ h => h) ?_ ?_ ?_
  rotate_left 2
  · refine .inl ⟨by kernel_rfl, ?_⟩; intro wS hS; clear hS; go_simp; with_reducible rfl
  · go_simp; with_reducible rfl
  refine wpK_one 6 rfl (by kernel_rfl) (fun K hK => ?_)
  have HKK := Lib.hid hK
  clear hK
  go_wp2_with fail
  refine (knows_any _).mono ?_
  rintro e w9 ⟨rfl, hb⟩
  have HS := Lib.hid (HS.out.trans (hb.mono HS.out.size))
  clear hb
  go_wp2
  refine HKK.out _ _ (fun _ _ => HS.out) ?_
  refine wpK_take0 (v := ?_) (a' := ?_) 7 rfl (by kernel_rfl) (by kernel_rfl) (by kernel_rfl) (by kernel_rfl) (fun _ _ _ h => h) ?_ ?_ ?_
  rotate_left 2
  · refine .inl ⟨by kernel_rfl, ?_⟩; intro wS hS; clear hS; go_simp; with_reducible rfl
  · go_simp; with_reducible rfl
  refine wpK_take0 (v := ?_) (a' := ?_) 8 rfl (by kernel_rfl) (by kernel_rfl) (by kernel_rfl) (by kernel_rfl) (fun _ _ _ h => h) ?_ ?_ ?_
  rotate_left 2
  · refine .inl ⟨by kernel_rfl, ?_⟩; intro wS hS; clear hS; go_simp; with_reducible rfl
  · go_simp; with_reducible rfl
  refine wpK_end (by kernel_rfl) ?_ _
  go_wp2
  go_ret
  exact ⟨rfl, below_then HZ.out HS.out⟩
end Go.Proofs.Ytijhajemiioknaa
