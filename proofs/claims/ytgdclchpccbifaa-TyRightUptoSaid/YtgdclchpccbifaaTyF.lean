/-
  THE REFERENCE's Of, Fn.
-/
import Derived.Test.YtgdclchpccbifaaTyE
namespace Go.Proofs.Ytgdclchpccbifaa
open Go.ChangeShapes Go.WideShapes Go.ChangeAt Go.RowKit
set_option linter.unusedVariables false
/-- A result cell, and a struct that begins to grow. -/
def W2 (w : World) (k' n' : Int) (s' : ByteArray) : World :=
  (w.alloc (.cells #[.int .i64 0, .int .i64 0, .string ⟨#[]⟩, .slice none 0 0] 25)).alloc (.cells #[.int .i64 k', .int .i64 n', .string s', .slice none 0 0] 25)
theorem W2.below (w : World) (k' n' : Int) (s' : ByteArray) : Below w.heap.size w (W2 w k' n' s') := (below_new w _).alloc (by simp) _
theorem W2.start (w : World) (k' n' : Int) (s' : ByteArray) : Grow (W2 w k' n' s') (w.heap.size + 2) (w.heap.size + 1) k' n' s' [] (.slice none 0 0) (W2 w k' n' s') :=
  ⟨heap_alloc2_new _ _ _, Own.nil _ _ _ _ _, by omega, by unfold W2; simp, Nat.le_refl _, rfl, rfl, rfl, fun _ _ _ => rfl⟩
section
variable {w wr : World} {k' n' : Int} {s' : ByteArray} {A' : Option Addr} {c' : Nat} {us : List Tt} {sv : Value}
theorem W2.res (h : Grow (W2 w k' n' s') (w.heap.size + 2) (w.heap.size + 1) k' n' s' us sv wr) : wr.heap[w.heap.size]? = some (.cells #[.int .i64 0, .int .i64 0, .string ⟨#[]⟩, .slice none 0 0] 25 (0, 0)) :=
  (h.block _ (by omega) (by omega)).trans (heap_alloc2_old _ _ _)
theorem W2.made (h : Grow (W2 w k' n' s') (w.heap.size + 2) (w.heap.size + 1) k' n' s' us (.slice A' us.length c') wr) (hn : -9223372036854775808 ≤ n' ∧ n' ≤ 9223372036854775807) (hl : us.length ≤ 1048576) (hs : s'.size ≤ 1048576) (r : Array Value) :
    TyR.rd (wr.setRow w.heap.size r) (New w.heap.size (wr.setRow w.heap.size r)) (.mk k' n' s' us) [.int .i64 k', .int .i64 n', .string s', .slice A' us.length c'] ∧ Below w.heap.size w (wr.setRow w.heap.size r) :=
  boxed_end (B := w.heap.size + 1) (TyR.more (S := New (w.heap.size + 2) wr) (fun b hb => ⟨by have := hb.1; omega, hb.2⟩) (TyR.mk hn hl hs h.own.rows)) (Nat.lt_succ_self _) (Nat.le_refl _) (h.below (by omega) (W2.below _ _ _ _))
end
set_option maxHeartbeats 1000000 in
theorem rof_any (s : ByteArray) (l : List Tt) (A : Option Addr) (c : Nat) (w : World) (S : Nat → Prop) (hS : ∀ b, S b → b < w.heap.size) (hs : s.size ≤ 1048576) (hl : l.length ≤ 1048576) (h : Rows TyR 4 w S A l) :
    Calls Try.prog 20 #[.string s, .slice A l.length c] w (Made w w.heap.size (.mk 2 0 s l)) := by
  have HK := Lib.hid h
  have HS := Lib.hid hS
  clear h hS
  go_enter Try.func20, Try.ntmps20
  go_wp2
  go_loopw [6] (fun z wr => ∃ (j : Nat) (sv : Value), j ≤ l.length ∧ z = .int .i64 j ∧ Grow (W2 w 2 0 s) (w.heap.size + 2) (w.heap.size + 1) 2 0 s (l.take j) sv wr) (fun z _ => l.length - (intOf z).toNat)
  case atStart => exact ⟨0, .slice none 0 0, Nat.zero_le _, rfl, W2.start _ _ _ _⟩
  case round =>
    obtain ⟨j, sv, hj, rfl, hat⟩ := hrel
    have HAT := Lib.hid hat
    have hz := hat.size
    clear hat
    by_cases hlt : j < l.length
    · obtain ⟨b, o, cs, rfl, hSb, hr, hd⟩ := HK.out j _ (List.getElem?_eq_getElem hlt)
      have HT : Hid (l.take (j + 1) = l.take j ++ [l[j]]) := Lib.hid (List.take_succ_eq_append_getElem hlt)
      generalize l[j] = x at *
      obtain ⟨k2, n2, s2, l2⟩ := x
      obtain ⟨A2, c2, hcs, _⟩ := TyR.open_ hd
      simp only [Tt.kind, Tt.num, Tt.name, Tt.args] at hcs
      subst hcs
      obtain ⟨d0, hd0⟩ := hd
      have hwr := HAT.out.below (by omega) (W2.below w 2 0 s)
      have HR : Hid (∀ W', Below wr.heap.size wr W' → W'.rangeAt b (o + j * 4) [.int .i64 k2, .int .i64 n2, .string s2, .slice A2 l2.length c2]) := Lib.hid fun W' hW => range_same hr (Same.of_below (hwr.trans (hW.mono (by omega))) HS.out) hSb
      have HC : Hid (∀ W', Below wr.heap.size wr W' → W'.cell? ⟨w.heap.size + 1, 3, none⟩ = some sv) := Lib.hid fun W' hW => HAT.out.cell hW
      have HC2 : Hid (∀ W', Below wr.heap.size wr W' → True) := Lib.hid fun W' hW => trivial
      have HD : Hid (∀ W', Below wr.heap.size wr W' → Calls Try.prog 48 #[.agg #[.int .i64 k2, .int .i64 n2, .string s2, .slice A2 l2.length c2]] W' (Made W' W'.heap.size (.mk k2 n2 s2 l2))) := Lib.hid fun W' hW => by
        have h1 : Below w.heap.size w W' := hwr.trans (hW.mono (by omega))
        have h2 := h1.size
        exact copyTy_any d0 k2 n2 s2 l2 A2 c2 W' S (fun b hb => by have := HS.out b hb; omega) (hd0.keep (Same.of_below h1 HS.out))
      have HU : Hid ((l.take j).length = j) := Lib.hid (by rw [List.length_take]; omega)
      clear hr hd0 hwr
      go_wp2
      refine wp_region_K (fun w' => Below wr.heap.size wr w') (fun j => j != 8 && j != 10) (by kernel_rfl) ?_
      refine wpK_take0 (v := ?_) (a' := ?_) 0 rfl (by kernel_rfl) (by kernel_rfl) (by kernel_rfl) (by kernel_rfl) (fun _ _ _ h => h) ?_ ?_ ?_
      rotate_left 2
      · refine .inl ⟨by kernel_rfl, ?_⟩; intro wS hS; clear hS; go_simp; with_reducible rfl
      · go_simp; with_reducible rfl
      refine wpK_take (v := ?_) (a' := ?_) 1 rfl (by kernel_rfl) (by kernel_rfl) (by kernel_rfl) (by kernel_rfl) (by kernel_rfl) (fun _ _ _ h => h) (below_drew1 (Below.refl _ _)) ?_ ?_ ?_
      rotate_left 2
      · refine .inl ⟨by kernel_rfl, ?_⟩; intro wS hS; have q1 := HC.out _ hS; have q2 := HC2.out _ hS; go_simp; with_reducible rfl
      · go_simp; with_reducible rfl
      refine wpK_take0 (v := ?_) (a' := ?_) 2 rfl (by kernel_rfl) (by kernel_rfl) (by kernel_rfl) (by kernel_rfl) (fun _ _ _ h => h) ?_ ?_ ?_
      rotate_left 2
      · refine .inl ⟨by kernel_rfl, ?_⟩; intro wS hS; clear hS; go_simp; with_reducible rfl
      · go_simp; with_reducible rfl
      refine wpK_take0 (v := ?_) (a' := ?_) 3 rfl (by kernel_rfl) (by kernel_rfl) (by kernel_rfl) (by kernel_rfl) (fun _ _ _ h => h) ?_ ?_ ?_
      rotate_left 2
      · refine .inl ⟨by kernel_rfl, ?_⟩; intro wS hS; clear hS; go_simp; with_reducible rfl
      · go_simp; with_reducible rfl
      refine wpK_take0 (v := ?_) (a' := ?_) 4 rfl (by kernel_rfl) (by kernel_rfl) (by kernel_rfl) (by kernel_rfl) (fun _ _ _ h => h) ?_ ?_ ?_
      rotate_left 2
      · refine .inl ⟨by kernel_rfl, ?_⟩; intro wS hS; clear hS; go_simp; with_reducible rfl
      · go_simp; with_reducible rfl
      refine wpK_take (v := (.agg #[.int .i64 k2, .int .i64 n2, .string s2, .slice A2 l2.length c2])) (a' := ?_) 5 rfl (by kernel_rfl) (by kernel_rfl) (by kernel_rfl) (by kernel_rfl) (by kernel_rfl) (fun _ _ _ h => h) (below_drew1 (Below.refl _ _)) ?_ ?_ ?_
      rotate_left 1
      · exact yieldsIf_load_mid (by kernel_rfl) 25 (.tmp 19) rfl b (o + j * 4) (by go_simp) _ _ (fun wS hS => HR.out _ hS) Try.underlying25 rfl (tySize _ _ _ _)
      · go_simp; with_reducible rfl
      refine wpK_one 6 rfl (by kernel_rfl) (fun K hK => ?_)
      have HKK := Lib.hid hK
      clear hK
      go_wp2_with fail
      refine (HD.out _ (below_drew1 (Below.refl _ _))).mono ?_
      rintro e w1 ⟨A3, c3, rfl, h3, hb1⟩
      have HM := Lib.hid (And.intro h3 hb1)
      have hz1 : wr.heap.size ≤ w1.heap.size := hb1.size
      clear h3 hb1
      go_wp2
      refine HKK.out _ _ (fun _ hS => hS.trans (HM.out.2.mono (by simp))) ?_
      refine wpK_one 7 rfl (by kernel_rfl) (fun K hK => ?_)
      have HKK := Lib.hid hK
      clear hK
      go_wp2
      refine HKK.out _ _ (fun _ hS => hS.trans ((below_new _ _).mono hS.size)) ?_
      refine wpK_one 8 rfl (by kernel_rfl) (fun K hK => ?_)
      have HKK := Lib.hid hK
      clear hK
      have hbw : Below wr.heap.size wr (w1.alloc (.cells #[.int .i64 ((Tt.mk k2 n2 s2 l2)).kind, .int .i64 ((Tt.mk k2 n2 s2 l2)).num, .string ((Tt.mk k2 n2 s2 l2)).name, .slice A3 ((Tt.mk k2 n2 s2 l2)).args.length c3] 25)) :=
        (below_drew1 (Below.refl wr.heap.size wr)).trans ((HM.out.2.mono (by simp)).trans ((below_new _ _).mono hz1))
      obtain ⟨rows, hrows⟩ := HAT.out.own.below hbw
      have HRO := Lib.hid hrows
      have HBW := Lib.hid hbw
      obtain ⟨i0, hi, hi0, hi1, hi2⟩ := info_parts tyInfo
      have HI := Lib.hid (And.intro hi (And.intro hi0 (And.intro hi1 hi2)))
      clear hi hi0 hi1 hi2 hrows hbw
      have hus := HU.out
      refine wpList_append_own_at _ rfl (.tmp 16) (.tmp 22) 23 rfl (w.heap.size + 2) 25 i0 (.agg #[.int .i64 0, .int .i64 0, .string ⟨#[]⟩, .slice none 0 0]) 4 56 Try.underlying23 HI.out.1 HI.out.2.1 HI.out.2.2.1 HI.out.2.2.2 rfl (by decide)
        sv (l.take j).length rows.flatten rfl HRO.out.2.2.1 ⟨w1.heap.size, 0, none⟩ 1 1 [.int .i64 ((Tt.mk k2 n2 s2 l2)).kind, .int .i64 ((Tt.mk k2 n2 s2 l2)).num, .string ((Tt.mk k2 n2 s2 l2)).name, .slice A3 ((Tt.mk k2 n2 s2 l2)).args.length c3] rfl rfl ?c1 ?c2 ?c3 ?c4 ?c5 ?_
      case c1 => exact new_cells _ _ _
      case c2 => simp [Value.oneCell']
      case c3 => rw [hus]; unfold maxLen; omega
      case c4 => rw [hus]; omega
      case c5 => simp; omega
      intro v' w2 hown2 hgrow _ hv'
      obtain ⟨A4, n4, c4, rfl⟩ := own_slice hown2
      have HO := Lib.hid (And.intro hown2 (And.intro hgrow hv'))
      clear hown2 hgrow hv' hus
      refine wpList_nil ?_
      refine HKK.out _ _ (fun h => absurd h (by decide)) ?_
      refine wpK_one 9 rfl (by kernel_rfl) (fun K hK => ?_)
      have HKK := Lib.hid hK
      clear hK
      go_wp2
      refine HKK.out _ _ (fun _ hS => hS) ?_
      refine wpK_one 10 rfl (by kernel_rfl) (fun K hK => ?_)
      have HKK := Lib.hid hK
      clear hK
      obtain ⟨e1, e2⟩ := grow_cell HAT.out HBW.out HRO.out HO.out.2.1
      go_wp2
      refine HKK.out _ _ (fun h => absurd h (by decide)) ?_
      refine wpK_end (by kernel_rfl) ?_ _
      have HN := Lib.hid (grow_next HAT.out HBW.out HRO.out HO.out.1 HO.out.2.1 HO.out.2.2 HM.out.1 HM.out.2)
      clear HKK HO HRO HI HBW HD HC HC2 HM e1 e2
      go_wp2
      go_roundw
      case rel => exact ⟨j + 1, _, by omega, by go_num, by rw [HT.out]; exact HN.out⟩
      case measure => simp [intOf]; omega
    · obtain rfl : j = l.length := by omega
      rw [List.take_length] at HAT
      obtain ⟨A5, c5, hsv, _, _⟩ := HAT.out.own.form
      subst hsv
      go_wp2_with (first | (refine wpList_load_row rfl 25 _ rfl (w.heap.size + 1) rfl 25 #[.int .i64 2, .int .i64 0, .string s, .slice A5 l.length c5] (0, 0) _ HAT.out.box Try.underlying25 rfl (tySizeA _ _ _ _) ?_) | (refine wpList_store_row rfl 25 _ _ rfl w.heap.size _ rfl rfl 25 #[.int .i64 0, .int .i64 0, .string ⟨#[]⟩, .slice none 0 0] (W2.res HAT.out) (tySizeA _ _ _ _) rfl (one4 _ _ _ _ _ _) ?_))
      refine bodyPost_ret (v := .agg #[.int .i64 2, .int .i64 0, .string s, .slice A5 l.length c5]) (results_cell_row rfl _ _ w.heap.size 25 _ (0, 0) _ rfl (setRow_row (W2.res HAT.out)) Try.underlying25 rfl (tySizeA _ _ _ _)) rfl ?_
      obtain ⟨f1, f2⟩ := W2.made HAT.out (by omega) hl hs #[.int .i64 2, .int .i64 0, .string s, .slice A5 l.length c5]
      exact ⟨A5, c5, rfl, f1, f2⟩
set_option maxHeartbeats 1000000 in
theorem rfn_any (k n : Int) (s : ByteArray) (l : List Tt) (A : Option Addr) (c : Nat) (k' n' : Int) (s' : ByteArray) (l' : List Tt) (A' : Option Addr) (c' : Nat) (w : World) (S : Nat → Prop) (hS : ∀ b, S b → b < w.heap.size)
    (h : TyR.rd w S (.mk k n s l) [.int .i64 k, .int .i64 n, .string s, .slice A l.length c]) (h' : TyR.rd w S (.mk k' n' s' l') [.int .i64 k', .int .i64 n', .string s', .slice A' l'.length c']) :
    Calls Try.prog 19 #[.agg #[.int .i64 k, .int .i64 n, .string s, .slice A l.length c], .agg #[.int .i64 k', .int .i64 n', .string s', .slice A' l'.length c']] w (Made w w.heap.size (.mk 2 0 ⟨#[45, 62]⟩ [.mk k n s l, .mk k' n' s' l'])) := by
  have HB : Hid (∃ w4, w4 = (((w.alloc (.cells #[.int .i64 k, .int .i64 n, .string s, .slice A l.length c] 25)).alloc (.cells #[.int .i64 k', .int .i64 n', .string s', .slice A' l'.length c'] 25)).alloc (.cells #[.int .i64 0, .int .i64 0, .string ⟨#[]⟩, .slice none 0 0] 25)).alloc (.cells #[.int .i64 k, .int .i64 n, .string s, .slice A l.length c, .int .i64 k', .int .i64 n', .string s', .slice A' l'.length c'] 25) ∧ Below w.heap.size w w4 ∧ w4.heap.size = w.heap.size + 4 ∧ w4.heap[w.heap.size + 2]? = some (.cells #[.int .i64 0, .int .i64 0, .string ⟨#[]⟩, .slice none 0 0] 25 (0, 0)) ∧
      Calls Try.prog 20 #[.string ⟨#[45, 62]⟩, .slice (some ⟨w.heap.size + 3, 0, none⟩) 2 2] w4 (Made w4 (w.heap.size + 4) (.mk 2 0 ⟨#[45, 62]⟩ [.mk k n s l, .mk k' n' s' l']))) := Lib.hid (by
    refine ⟨_, rfl, ?_, by simp, ?_, ?_⟩
    · exact (((below_new w _).alloc (by simp) _).alloc (by simp; omega) _).alloc (by simp; omega) _
    · rw [heap_alloc_old _ _ (by simp), heap_alloc3_new]
    · have hb : Below w.heap.size w ((((w.alloc (.cells #[.int .i64 k, .int .i64 n, .string s, .slice A l.length c] 25)).alloc (.cells #[.int .i64 k', .int .i64 n', .string s', .slice A' l'.length c'] 25)).alloc (.cells #[.int .i64 0, .int .i64 0, .string ⟨#[]⟩, .slice none 0 0] 25)).alloc (.cells #[.int .i64 k, .int .i64 n, .string s, .slice A l.length c, .int .i64 k', .int .i64 n', .string s', .slice A' l'.length c'] 25)) := (((below_new w _).alloc (by simp) _).alloc (by simp; omega) _).alloc (by simp; omega) _
      have hsz : ((((w.alloc (.cells #[.int .i64 k, .int .i64 n, .string s, .slice A l.length c] 25)).alloc (.cells #[.int .i64 k', .int .i64 n', .string s', .slice A' l'.length c'] 25)).alloc (.cells #[.int .i64 0, .int .i64 0, .string ⟨#[]⟩, .slice none 0 0] 25)).alloc (.cells #[.int .i64 k, .int .i64 n, .string s, .slice A l.length c, .int .i64 k', .int .i64 n', .string s', .slice A' l'.length c'] 25)).heap.size = w.heap.size + 4 := by simp
      have hg := heap_alloc_new (((w.alloc (.cells #[.int .i64 k, .int .i64 n, .string s, .slice A l.length c] 25)).alloc (.cells #[.int .i64 k', .int .i64 n', .string s', .slice A' l'.length c'] 25)).alloc (.cells #[.int .i64 0, .int .i64 0, .string ⟨#[]⟩, .slice none 0 0] 25)) (.cells #[.int .i64 k, .int .i64 n, .string s, .slice A l.length c, .int .i64 k', .int .i64 n', .string s', .slice A' l'.length c'] 25)
      have hz3 : (((w.alloc (.cells #[.int .i64 k, .int .i64 n, .string s, .slice A l.length c] 25)).alloc (.cells #[.int .i64 k', .int .i64 n', .string s', .slice A' l'.length c'] 25)).alloc (.cells #[.int .i64 0, .int .i64 0, .string ⟨#[]⟩, .slice none 0 0] 25)).heap.size = w.heap.size + 3 := by simp
      rw [hz3] at hg
      generalize (((w.alloc (.cells #[.int .i64 k, .int .i64 n, .string s, .slice A l.length c] 25)).alloc (.cells #[.int .i64 k', .int .i64 n', .string s', .slice A' l'.length c'] 25)).alloc (.cells #[.int .i64 0, .int .i64 0, .string ⟨#[]⟩, .slice none 0 0] 25)).alloc (.cells #[.int .i64 k, .int .i64 n, .string s, .slice A l.length c, .int .i64 k', .int .i64 n', .string s', .slice A' l'.length c'] 25) = w4 at *
      have hsame : Same S w w4 := Same.of_below hb hS
      have hrows := Rows.block (R := TyR) (sz := 4) (S := S) (l := [Tt.mk k n s l, .mk k' n' s' l']) (rows := [[.int .i64 k, .int .i64 n, .string s, .slice A l.length c], [.int .i64 k', .int .i64 n', .string s', .slice A' l'.length c']]) hg (by
          intro j u hj; simpa using hj) (by simp) rfl (by
          intro i a r ha hr
          match i, ha, hr with
          | 0, ha, hr => simp only [List.getElem?_cons_zero, Option.some.injEq] at ha hr; subst ha; subst hr; exact TyR.keep hsame h
          | 1, ha, hr => simp only [List.getElem?_cons_succ, List.getElem?_cons_zero, Option.some.injEq] at ha hr; subst ha; subst hr; exact TyR.keep hsame h'
          | i + 2, ha, _ => simp at ha)
      have := rof_any ⟨#[45, 62]⟩ [.mk k n s l, .mk k' n' s' l'] (some ⟨w.heap.size + 3, 0, none⟩) 2 w4 _ (fun b hb => by
        rcases hb with hb | rfl
        · have := hS b hb; omega
        · omega) (by decide) (by simp) hrows
      rw [hsz] at this
      exact this)
  obtain ⟨w4, hw4, hb4, hz4, hg4, hc4⟩ := HB.out
  have H4 := Lib.hid (And.intro hb4 (And.intro hz4 (And.intro hg4 hc4)))
  have HW := Lib.hid hw4
  clear HB h h' hS hw4 hb4 hz4 hg4 hc4
  go_enter Try.func19, Try.ntmps19
  go_wp2_with fail
  rw [← HW.out]
  refine H4.out.2.2.2.mono ?_
  rintro e w1 ⟨A3, c3, rfl, h3, hb1⟩
  have HM := Lib.hid (And.intro h3 hb1)
  clear h3 hb1
  have HG : Hid (w1.heap[w.heap.size + 2]? = some (.cells #[.int .i64 0, .int .i64 0, .string ⟨#[]⟩, .slice none 0 0] 25 (0, 0))) := Lib.hid ((HM.out.2.block _ (by have := H4.out.2.1; omega)).trans H4.out.2.2.1)
  go_wp2_with (refine wpList_store_row rfl 25 _ _ rfl (w.heap.size + 2) _ rfl rfl 25 #[.int .i64 0, .int .i64 0, .string ⟨#[]⟩, .slice none 0 0] HG.out (tySizeA _ _ _ _) rfl (one4 _ _ _ _ _ _) ?_)
  refine bodyPost_ret (v := .agg #[.int .i64 2, .int .i64 0, .string ⟨#[45, 62]⟩, .slice A3 2 c3]) (results_cell_row rfl _ _ (w.heap.size + 2) 25 _ (0, 0) _ rfl (setRow_row HG.out) Try.underlying25 rfl (tySizeA _ _ _ _)) rfl ?_
  obtain ⟨f1, f2⟩ := boxed_end (w := w) (b := w.heap.size + 2) (r := #[.int .i64 2, .int .i64 0, .string ⟨#[45, 62]⟩, .slice A3 2 c3]) HM.out.1 (by omega) (by omega) (below_then H4.out.1 HM.out.2)
  exact ⟨A3, c3, rfl, f1, f2⟩
end Go.Proofs.Ytgdclchpccbifaa
