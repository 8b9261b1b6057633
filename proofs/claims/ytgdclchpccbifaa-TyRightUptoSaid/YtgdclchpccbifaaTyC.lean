/-
  ARE TWO TYPES THE SAME: the program's answer and the reference's.
-/
import Derived.Test.YtgdclchpccbifaaTyB
import Derived.Test.YtgdclchpccbifaaNm
namespace Go.Proofs.Ytgdclchpccbifaa
open Go.ChangeShapes Go.WideShapes Go.ChangeAt Go.RowKit
set_option linter.unusedVariables false
set_option maxHeartbeats 1000000 in
theorem same_any : ∀ (d : Nat) (k n : Int) (s : ByteArray) (l : List Tt) (A : Option Addr) (c : Nat) (k' n' : Int) (s' : ByteArray) (l' : List Tt) (A' : Option Addr) (c' : Nat) (w : World) (S : Nat → Prop), (∀ b, S b → b < w.heap.size) →
    TyRd w S d (.mk k n s l) [.int .i64 k, .int .i64 n, .string s, .slice A l.length c] → TyR.rd w S (.mk k' n' s' l') [.int .i64 k', .int .i64 n', .string s', .slice A' l'.length c'] →
    Calls Try.prog 14 #[.agg #[.int .i64 k, .int .i64 n, .string s, .slice A l.length c], .agg #[.int .i64 k', .int .i64 n', .string s', .slice A' l'.length c']] w fun e w' => e = .returned (.bool (sameT (.mk k n s l) (.mk k' n' s' l'))) ∧ Below w.heap.size w w' := by
  intro d
  induction d with
  | zero => intro k n s l A c k' n' s' l' A' c' w S _ h; exact h.elim
  | succ d ih =>
    intro k n s l A c k' n' s' l' A' c' w S hS h h'
    obtain ⟨A1, c1, hcs, hn, hl, hs, hk⟩ := h
    simp only [List.cons.injEq, Value.slice.injEq, and_true, true_and] at hcs
    obtain ⟨rfl, rfl⟩ := hcs
    obtain ⟨A1, c1, hcs, hn', hl', hs', hk'⟩ := (TyR.open_ h')
    simp only [Tt.kind, Tt.num, Tt.name, Tt.args, List.cons.injEq, Value.slice.injEq, and_true, true_and] at hcs hn' hl' hs' hk'
    obtain ⟨rfl, rfl⟩ := hcs
    have HK := Lib.hid hk
    have HK' := Lib.hid hk'
    have HS := Lib.hid hS
    have HIH := Lib.hid ih
    have HE : Hid (sameT (.mk k n s l) (.mk k' n' s' l') = (decide (k = k') && decide (n = n') && decide (s = s') && decide (l.length = l'.length) && sameL l l')) := Lib.hid (by rw [sameT])
    clear hk hk' hS ih h' hn hn' hs hs'
    by_cases e1 : k = k'
    case neg =>
      have q1 : (k != k') = true := by simpa using e1
      have HN := Lib.hid e1
      clear e1
      go_enter Try.func14, Try.ntmps14
      go_wp2
      go_ret
      exact ⟨ret_bool (by rw [HE.out]; simp [HN.out]), ((below_new _ _).alloc (by simp) _)⟩
    have q1 : (k != k') = false := by simpa using e1
    by_cases e2 : n = n'
    case neg =>
      have q2 : (n != n') = true := by simpa using e2
      have HN := Lib.hid e2
      clear e1 e2
      go_enter Try.func14, Try.ntmps14
      go_wp2
      go_ret
      exact ⟨ret_bool (by rw [HE.out]; simp [HN.out]), ((below_new _ _).alloc (by simp) _)⟩
    have q2 : (n != n') = false := by simpa using e2
    by_cases e3 : s = s'
    case neg =>
      have q3 : (s.toList == s'.toList) = false := by simpa [bytes_eq] using e3
      have HN := Lib.hid e3
      clear e1 e2 e3
      go_enter Try.func14, Try.ntmps14
      go_wp2
      go_ret
      exact ⟨ret_bool (by rw [HE.out]; simp [HN.out]), ((below_new _ _).alloc (by simp) _)⟩
    have q3 : (s.toList == s'.toList) = true := by rw [e3]; simp
    by_cases e4 : l.length = l'.length
    case neg =>
      have q4 : ((l.length : Int) != l'.length) = true := by simpa using (by omega : (l.length : Int) ≠ l'.length)
      have HN := Lib.hid e4
      clear e1 e2 e3 e4
      go_enter Try.func14, Try.ntmps14
      go_wp2
      go_ret
      exact ⟨ret_bool (by rw [HE.out]; simp [HN.out]), ((below_new _ _).alloc (by simp) _)⟩
    have q4 : ((l.length : Int) != l'.length) = false := by rw [e4]; simp
    rw [decide_eq_true e1, decide_eq_true e2, decide_eq_true e3, decide_eq_true e4] at HE
    have HL := Lib.hid e4
    clear e1 e2 e3 e4
    have hbx : ∀ W', Below (w.heap.size + 2) ((w.alloc (.cells #[.int .i64 k, .int .i64 n, .string s, .slice A l.length c] 25)).alloc (.cells #[.int .i64 k', .int .i64 n', .string s', .slice A' l'.length c'] 25)) W' → Below w.heap.size w W' := fun W' hW => ((below_new w _).alloc (by simp) _).trans (hW.mono (by omega))
    have hc1 : ∀ W', Below (w.heap.size + 2) ((w.alloc (.cells #[.int .i64 k, .int .i64 n, .string s, .slice A l.length c] 25)).alloc (.cells #[.int .i64 k', .int .i64 n', .string s', .slice A' l'.length c'] 25)) W' → W'.cell? ⟨w.heap.size, 3, none⟩ = some (.slice A l.length c) := fun W' hW => by
      rw [cell_of_row W' w.heap.size 3 _ _ _ ((hW.block _ (by omega)).trans (heap_alloc2_old _ _ _))]; rfl
    have hc2 : ∀ W', Below (w.heap.size + 2) ((w.alloc (.cells #[.int .i64 k, .int .i64 n, .string s, .slice A l.length c] 25)).alloc (.cells #[.int .i64 k', .int .i64 n', .string s', .slice A' l'.length c'] 25)) W' → W'.cell? ⟨w.heap.size + 1, 3, none⟩ = some (.slice A' l'.length c') := fun W' hW => by
      rw [cell_of_row W' (w.heap.size + 1) 3 _ _ _ ((hW.block _ (by omega)).trans (heap_alloc2_new _ _ _))]; rfl
    have HX := Lib.hid hbx
    have H1 := Lib.hid hc1
    have H2 := Lib.hid hc2
    clear hbx hc1 hc2
    go_enter Try.func14, Try.ntmps14
    go_wp2
    go_loopw [37] (fun z wr => ∃ j : Nat, j ≤ l.length ∧ z = .int .i64 j ∧ sameL (l.take j) (l'.take j) = true ∧ Below (w.heap.size + 2) ((w.alloc (.cells #[.int .i64 k, .int .i64 n, .string s, .slice A l.length c] 25)).alloc (.cells #[.int .i64 k', .int .i64 n', .string s', .slice A' l'.length c'] 25)) wr) (fun z _ => l.length - (intOf z).toNat)
    case atStart => exact ⟨0, Nat.zero_le _, rfl, rfl, Below.refl _ _⟩
    case round =>
      obtain ⟨j, hj, rfl, hsm, hb⟩ := hrel
      have HSM := Lib.hid hsm
      have HB := Lib.hid hb
      have hz : w.heap.size + 2 ≤ wr.heap.size := by have := hb.size; simp at this; omega
      clear hsm hb
      have z1 := H1.out wr HB.out
      by_cases hlt : j < l.length
      · have hlt' : j < l'.length := by have := HL.out; omega
        obtain ⟨b, o, cs, rfl, hSb, hr, hd⟩ := HK.out j _ (List.getElem?_eq_getElem hlt)
        obtain ⟨b', o', cs', rfl, hSb', hr', hd'⟩ := HK'.out j _ (List.getElem?_eq_getElem hlt')
        have HT := Lib.hid (sameL_take hlt hlt' HSM.out)
        have HST := Lib.hid (fun h => sameL_stop (l := l) (m := l') (k := j + 1) h)
        generalize l[j] = x at *
        generalize l'[j] = x' at *
        obtain ⟨k2, n2, s2, l2⟩ := x
        obtain ⟨k3, n3, s3, l3⟩ := x'
        cases d with
        | zero => exact hd.elim
        | succ d =>
        have hd0 := hd
        obtain ⟨A2, c2, rfl, _⟩ := hd
        obtain ⟨A3, c3, hcs, _⟩ := (TyR.open_ hd')
        simp only [Tt.kind, Tt.num, Tt.name, Tt.args] at hcs
        subst hcs
        have hW : ∀ W', Below wr.heap.size wr W' → Below w.heap.size w W' := fun W' h => HX.out _ (HB.out.trans (h.mono hz))
        have HR : Hid (∀ W', Below wr.heap.size wr W' → W'.rangeAt b (o + j * 4) [.int .i64 k2, .int .i64 n2, .string s2, .slice A2 l2.length c2]) := Lib.hid fun W' h => range_same hr (Same.of_below (hW W' h) HS.out) hSb
        have HR' : Hid (∀ W', Below wr.heap.size wr W' → W'.rangeAt b' (o' + j * 4) [.int .i64 k3, .int .i64 n3, .string s3, .slice A3 l3.length c3]) := Lib.hid fun W' h => range_same hr' (Same.of_below (hW W' h) HS.out) hSb'
        have HC1 : Hid (∀ W', Below wr.heap.size wr W' → W'.cell? ⟨w.heap.size, 3, none⟩ = some (.slice (some ⟨b, o, none⟩) l.length c)) := Lib.hid fun W' h => H1.out _ (HB.out.trans (h.mono hz))
        have HC2 : Hid (∀ W', Below wr.heap.size wr W' → W'.cell? ⟨w.heap.size + 1, 3, none⟩ = some (.slice (some ⟨b', o', none⟩) l'.length c')) := Lib.hid fun W' h => H2.out _ (HB.out.trans (h.mono hz))
        have HD : Hid (∀ W', Below wr.heap.size wr W' → Calls Try.prog 14 #[.agg #[.int .i64 k2, .int .i64 n2, .string s2, .slice A2 l2.length c2], .agg #[.int .i64 k3, .int .i64 n3, .string s3, .slice A3 l3.length c3]] W' fun e w' => e = .returned (.bool (sameT (.mk k2 n2 s2 l2) (.mk k3 n3 s3 l3))) ∧ Below W'.heap.size W' w') := Lib.hid fun W' h => by
          have h1 := hW W' h
          have h2 := h1.size
          exact HIH.out k2 n2 s2 l2 A2 c2 k3 n3 s3 l3 A3 c3 W' S (fun b hb => by have := HS.out b hb; omega) (hd0.keep (Same.of_below h1 HS.out)) (TyR.keep (Same.of_below h1 HS.out) hd')
        clear hr hr' hd0 hd' hW
        rw [← HT.out] at HD
        have HLL := Lib.hid HL.out
        go_wp2
        refine wp_region_K (fun w' => Below wr.heap.size wr w') (fun j => true) (by kernel_rfl) ?_
        refine wpK_take0 (v := ?_) (a' := ?_) 0 rfl (by kernel_rfl) (by kernel_rfl) (by kernel_rfl) (by kernel_rfl) (fun _ _ _ h => h) ?_ ?_ ?_
        rotate_left 2
        · refine .inl ⟨by kernel_rfl, ?_⟩; intro wS hS; clear hS; go_simp; with_reducible rfl
        · go_simp; with_reducible rfl
        refine wpK_take (v := ?_) (a' := ?_) 1 rfl (by kernel_rfl) (by kernel_rfl) (by kernel_rfl) (by kernel_rfl) (by kernel_rfl) (fun _ _ _ h => h) (below_drew1 (Below.refl _ _)) ?_ ?_ ?_
        rotate_left 2
        · refine .inl ⟨by kernel_rfl, ?_⟩; intro wS hS; have q5 := HC1.out _ hS; have q6 := HC2.out _ hS; go_simp; with_reducible rfl
        · go_simp; with_reducible rfl
        refine wpK_take0 (v := ?_) (a' := ?_) 2 rfl (by kernel_rfl) (by kernel_rfl) (by kernel_rfl) (by kernel_rfl) (fun _ _ _ h => h) ?_ ?_ ?_
        rotate_left 2
        · refine .inl ⟨by kernel_rfl, ?_⟩; intro wS hS; clear hS; go_simp; with_reducible rfl
        · go_simp; with_reducible rfl
        refine wpK_take0 (v := ?_) (a' := ?_) 3 rfl (by kernel_rfl) (by kernel_rfl) (by kernel_rfl) (by kernel_rfl) (fun _ _ _ h => h) ?_ ?_ ?_
        rotate_left 2
        · refine .inl ⟨by kernel_rfl, ?_⟩; intro wS hS; clear hS; go_simp; with_reducible rfl
        · go_simp; with_reducible rfl
        refine wpK_take (v := (.agg #[.int .i64 k2, .int .i64 n2, .string s2, .slice A2 l2.length c2])) (a' := ?_) 4 rfl (by kernel_rfl) (by kernel_rfl) (by kernel_rfl) (by kernel_rfl) (by kernel_rfl) (fun _ _ _ h => h) (below_drew1 (Below.refl _ _)) ?_ ?_ ?_
        rotate_left 1
        · exact yieldsIf_load_mid (by kernel_rfl) 25 (.tmp 43) rfl b (o + j * 4) (by go_simp) _ _ (fun wS hS => HR.out _ hS) Try.underlying25 rfl (tySize _ _ _ _)
        · go_simp; with_reducible rfl
        refine wpK_take0 (v := ?_) (a' := ?_) 5 rfl (by kernel_rfl) (by kernel_rfl) (by kernel_rfl) (by kernel_rfl) (fun _ _ _ h => h) ?_ ?_ ?_
        rotate_left 2
        · refine .inl ⟨by kernel_rfl, ?_⟩; intro wS hS; clear hS; go_simp; with_reducible rfl
        · go_simp; with_reducible rfl
        refine wpK_take (v := ?_) (a' := ?_) 6 rfl (by kernel_rfl) (by kernel_rfl) (by kernel_rfl) (by kernel_rfl) (by kernel_rfl) (fun _ _ _ h => h) (below_drew1 (Below.refl _ _)) ?_ ?_ ?_
        rotate_left 2
        · refine .inl ⟨by kernel_rfl, ?_⟩; intro wS hS; have q5 := HC1.out _ hS; have q6 := HC2.out _ hS; go_simp; with_reducible rfl
        · go_simp; with_reducible rfl
        refine wpK_take0 (v := ?_) (a' := ?_) 7 rfl (by kernel_rfl) (by kernel_rfl) (by kernel_rfl) (by kernel_rfl) (fun _ _ _ h => h) ?_ ?_ ?_
        rotate_left 2
        · refine .inl ⟨by kernel_rfl, ?_⟩; intro wS hS; clear hS; go_simp; with_reducible rfl
        · go_simp; with_reducible rfl
        refine wpK_take0 (v := ?_) (a' := ?_) 8 rfl (by kernel_rfl) (by kernel_rfl) (by kernel_rfl) (by kernel_rfl) (fun _ _ _ h => h) ?_ ?_ ?_
        rotate_left 2
        · refine .inl ⟨by kernel_rfl, ?_⟩; intro wS hS; clear hS; go_simp; with_reducible rfl
        · go_simp; with_reducible rfl
        refine wpK_take (v := (.agg #[.int .i64 k3, .int .i64 n3, .string s3, .slice A3 l3.length c3])) (a' := ?_) 9 rfl (by kernel_rfl) (by kernel_rfl) (by kernel_rfl) (by kernel_rfl) (by kernel_rfl) (fun _ _ _ h => h) (below_drew1 (Below.refl _ _)) ?_ ?_ ?_
        rotate_left 1
        · exact yieldsIf_load_mid (by kernel_rfl) 25 (.tmp 48) rfl b' (o' + j * 4) (by go_simp) _ _ (fun wS hS => HR'.out _ hS) Try.underlying25 rfl (tySize _ _ _ _)
        · go_simp; with_reducible rfl
        refine wpK_one 10 rfl (by kernel_rfl) (fun K hK => ?_)
        have HKK := Lib.hid hK
        clear hK
        cases hsj : sameL (l.take (j + 1)) (l'.take (j + 1))
        · have HSJ := Lib.hid hsj
          clear hsj
          go_wp2_with fail
          refine (HD.out _ (below_drew1 (Below.refl _ _))).mono ?_
          rw [HSJ.out]
          rintro e w1 ⟨rfl, hb1⟩
          have HM := Lib.hid hb1
          clear hb1
          go_wp2
          refine HKK.out _ _ (fun _ hS => hS.trans (HM.out.mono (by simp))) ?_
          refine wpK_one 11 rfl (by kernel_rfl) (fun K hK => ?_)
          have HKK := Lib.hid hK
          clear hK
          go_wp2
          refine HKK.out _ _ (fun _ hS => hS) ?_
          refine wpK_end (by kernel_rfl) ?_ _
          go_wp2
          go_ret
          exact ⟨ret_bool (by rw [HE.out, HST.out HSJ.out]; rfl), HX.out _ (HB.out.trans ((below_drew1 (Below.refl _ _)).trans (HM.out.mono hz)))⟩
        · have HSJ := Lib.hid hsj
          clear hsj
          go_wp2_with fail
          refine (HD.out _ (below_drew1 (Below.refl _ _))).mono ?_
          rw [HSJ.out]
          rintro e w1 ⟨rfl, hb1⟩
          have HM := Lib.hid hb1
          clear hb1
          go_wp2
          refine HKK.out _ _ (fun _ hS => hS.trans (HM.out.mono (by simp))) ?_
          refine wpK_one 11 rfl (by kernel_rfl) (fun K hK => ?_)
          have HKK := Lib.hid hK
          clear hK
          go_wp2
          refine HKK.out _ _ (fun _ hS => hS) ?_
          refine wpK_end (by kernel_rfl) ?_ _
          go_wp2
          go_roundw
          case rel => exact ⟨j + 1, by omega, by go_num, HSJ.out, HB.out.trans ((below_drew1 (Below.refl _ _)).trans (HM.out.mono hz))⟩
          case measure => simp [intOf]; omega
      · obtain rfl : j = l.length := by omega
        go_wp2
        go_ret
        have hfin : sameL l l' = true := by
          have := HSM.out
          rw [List.take_length, HL.out, List.take_length] at this; exact this
        exact ⟨ret_bool (by rw [HE.out, hfin]; rfl), HX.out _ HB.out⟩
set_option maxHeartbeats 1000000 in
theorem rsame_any : ∀ (d : Nat) (k n : Int) (s : ByteArray) (l : List Tt) (A : Option Addr) (c : Nat) (k' n' : Int) (s' : ByteArray) (l' : List Tt) (A' : Option Addr) (c' : Nat) (w : World) (S : Nat → Prop), (∀ b, S b → b < w.heap.size) →
    TyRd w S d (.mk k n s l) [.int .i64 k, .int .i64 n, .string s, .slice A l.length c] → TyR.rd w S (.mk k' n' s' l') [.int .i64 k', .int .i64 n', .string s', .slice A' l'.length c'] →
    Calls Try.prog 45 #[.agg #[.int .i64 k, .int .i64 n, .string s, .slice A l.length c], .agg #[.int .i64 k', .int .i64 n', .string s', .slice A' l'.length c']] w fun e w' => e = .returned (.bool (sameT (.mk k n s l) (.mk k' n' s' l'))) ∧ Below w.heap.size w w' := by
  intro d
  induction d with
  | zero => intro k n s l A c k' n' s' l' A' c' w S _ h; exact h.elim
  | succ d ih =>
    intro k n s l A c k' n' s' l' A' c' w S hS h h'
    obtain ⟨A1, c1, hcs, hn, hl, hs, hk⟩ := h
    simp only [List.cons.injEq, Value.slice.injEq, and_true, true_and] at hcs
    obtain ⟨rfl, rfl⟩ := hcs
    obtain ⟨A1, c1, hcs, hn', hl', hs', hk'⟩ := (TyR.open_ h')
    simp only [Tt.kind, Tt.num, Tt.name, Tt.args, List.cons.injEq, Value.slice.injEq, and_true, true_and] at hcs hn' hl' hs' hk'
    obtain ⟨rfl, rfl⟩ := hcs
    have HK := Lib.hid hk
    have HK' := Lib.hid hk'
    have HS := Lib.hid hS
    have HIH := Lib.hid ih
    have HE : Hid (sameT (.mk k n s l) (.mk k' n' s' l') = (decide (k = k') && decide (n = n') && decide (s = s') && decide (l.length = l'.length) && sameL l l')) := Lib.hid (by rw [sameT])
    clear hk hk' hS ih h' hn hn' hs hs'
    by_cases e1 : k = k'
    case neg =>
      have q1 : (k != k') = true := by simpa using e1
      have HN := Lib.hid e1
      clear e1
      go_enter Try.func45, Try.ntmps45
      go_wp2
      go_ret
      exact ⟨ret_bool (by rw [HE.out]; simp [HN.out]), ((below_new _ _).alloc (by simp) _)⟩
    have q1 : (k != k') = false := by simpa using e1
    by_cases e2 : n = n'
    case neg =>
      have q2 : (n != n') = true := by simpa using e2
      have HN := Lib.hid e2
      clear e1 e2
      go_enter Try.func45, Try.ntmps45
      go_wp2
      go_ret
      exact ⟨ret_bool (by rw [HE.out]; simp [HN.out]), ((below_new _ _).alloc (by simp) _)⟩
    have q2 : (n != n') = false := by simpa using e2
    by_cases e3 : s = s'
    case neg =>
      have q3 : (s.toList == s'.toList) = false := by simpa [bytes_eq] using e3
      have HN := Lib.hid e3
      clear e1 e2 e3
      go_enter Try.func45, Try.ntmps45
      go_wp2
      go_ret
      exact ⟨ret_bool (by rw [HE.out]; simp [HN.out]), ((below_new _ _).alloc (by simp) _)⟩
    have q3 : (s.toList == s'.toList) = true := by rw [e3]; simp
    by_cases e4 : l.length = l'.length
    case neg =>
      have q4 : ((l.length : Int) != l'.length) = true := by simpa using (by omega : (l.length : Int) ≠ l'.length)
      have HN := Lib.hid e4
      clear e1 e2 e3 e4
      go_enter Try.func45, Try.ntmps45
      go_wp2
      go_ret
      exact ⟨ret_bool (by rw [HE.out]; simp [HN.out]), ((below_new _ _).alloc (by simp) _)⟩
    have q4 : ((l.length : Int) != l'.length) = false := by rw [e4]; simp
    rw [decide_eq_true e1, decide_eq_true e2, decide_eq_true e3, decide_eq_true e4] at HE
    have HL := Lib.hid e4
    clear e1 e2 e3 e4
    have hbx : ∀ W', Below (w.heap.size + 2) ((w.alloc (.cells #[.int .i64 k, .int .i64 n, .string s, .slice A l.length c] 25)).alloc (.cells #[.int .i64 k', .int .i64 n', .string s', .slice A' l'.length c'] 25)) W' → Below w.heap.size w W' := fun W' hW => ((below_new w _).alloc (by simp) _).trans (hW.mono (by omega))
    have hc1 : ∀ W', Below (w.heap.size + 2) ((w.alloc (.cells #[.int .i64 k, .int .i64 n, .string s, .slice A l.length c] 25)).alloc (.cells #[.int .i64 k', .int .i64 n', .string s', .slice A' l'.length c'] 25)) W' → W'.cell? ⟨w.heap.size, 3, none⟩ = some (.slice A l.length c) := fun W' hW => by
      rw [cell_of_row W' w.heap.size 3 _ _ _ ((hW.block _ (by omega)).trans (heap_alloc2_old _ _ _))]; rfl
    have hc2 : ∀ W', Below (w.heap.size + 2) ((w.alloc (.cells #[.int .i64 k, .int .i64 n, .string s, .slice A l.length c] 25)).alloc (.cells #[.int .i64 k', .int .i64 n', .string s', .slice A' l'.length c'] 25)) W' → W'.cell? ⟨w.heap.size + 1, 3, none⟩ = some (.slice A' l'.length c') := fun W' hW => by
      rw [cell_of_row W' (w.heap.size + 1) 3 _ _ _ ((hW.block _ (by omega)).trans (heap_alloc2_new _ _ _))]; rfl
    have HX := Lib.hid hbx
    have H1 := Lib.hid hc1
    have H2 := Lib.hid hc2
    clear hbx hc1 hc2
    go_enter Try.func45, Try.ntmps45
    go_wp2
    go_loopw [5] (fun z wr => ∃ j : Nat, j ≤ l.length ∧ z = .int .i64 j ∧ sameL (l.take j) (l'.take j) = true ∧ Below (w.heap.size + 2) ((w.alloc (.cells #[.int .i64 k, .int .i64 n, .string s, .slice A l.length c] 25)).alloc (.cells #[.int .i64 k', .int .i64 n', .string s', .slice A' l'.length c'] 25)) wr) (fun z _ => l.length - (intOf z).toNat)
    case atStart => exact ⟨0, Nat.zero_le _, rfl, rfl, Below.refl _ _⟩
    case round =>
      obtain ⟨j, hj, rfl, hsm, hb⟩ := hrel
      have HSM := Lib.hid hsm
      have HB := Lib.hid hb
      have hz : w.heap.size + 2 ≤ wr.heap.size := by have := hb.size; simp at this; omega
      clear hsm hb
      have z1 := H1.out wr HB.out
      by_cases hlt : j < l.length
      · have hlt' : j < l'.length := by have := HL.out; omega
        obtain ⟨b, o, cs, rfl, hSb, hr, hd⟩ := HK.out j _ (List.getElem?_eq_getElem hlt)
        obtain ⟨b', o', cs', rfl, hSb', hr', hd'⟩ := HK'.out j _ (List.getElem?_eq_getElem hlt')
        have HT := Lib.hid (sameL_take hlt hlt' HSM.out)
        have HST := Lib.hid (fun h => sameL_stop (l := l) (m := l') (k := j + 1) h)
        generalize l[j] = x at *
        generalize l'[j] = x' at *
        obtain ⟨k2, n2, s2, l2⟩ := x
        obtain ⟨k3, n3, s3, l3⟩ := x'
        cases d with
        | zero => exact hd.elim
        | succ d =>
        have hd0 := hd
        obtain ⟨A2, c2, rfl, _⟩ := hd
        obtain ⟨A3, c3, hcs, _⟩ := (TyR.open_ hd')
        simp only [Tt.kind, Tt.num, Tt.name, Tt.args] at hcs
        subst hcs
        have hW : ∀ W', Below wr.heap.size wr W' → Below w.heap.size w W' := fun W' h => HX.out _ (HB.out.trans (h.mono hz))
        have HR : Hid (∀ W', Below wr.heap.size wr W' → W'.rangeAt b (o + j * 4) [.int .i64 k2, .int .i64 n2, .string s2, .slice A2 l2.length c2]) := Lib.hid fun W' h => range_same hr (Same.of_below (hW W' h) HS.out) hSb
        have HR' : Hid (∀ W', Below wr.heap.size wr W' → W'.rangeAt b' (o' + j * 4) [.int .i64 k3, .int .i64 n3, .string s3, .slice A3 l3.length c3]) := Lib.hid fun W' h => range_same hr' (Same.of_below (hW W' h) HS.out) hSb'
        have HC1 : Hid (∀ W', Below wr.heap.size wr W' → W'.cell? ⟨w.heap.size, 3, none⟩ = some (.slice (some ⟨b, o, none⟩) l.length c)) := Lib.hid fun W' h => H1.out _ (HB.out.trans (h.mono hz))
        have HC2 : Hid (∀ W', Below wr.heap.size wr W' → W'.cell? ⟨w.heap.size + 1, 3, none⟩ = some (.slice (some ⟨b', o', none⟩) l'.length c')) := Lib.hid fun W' h => H2.out _ (HB.out.trans (h.mono hz))
        have HD : Hid (∀ W', Below wr.heap.size wr W' → Calls Try.prog 45 #[.agg #[.int .i64 k2, .int .i64 n2, .string s2, .slice A2 l2.length c2], .agg #[.int .i64 k3, .int .i64 n3, .string s3, .slice A3 l3.length c3]] W' fun e w' => e = .returned (.bool (sameT (.mk k2 n2 s2 l2) (.mk k3 n3 s3 l3))) ∧ Below W'.heap.size W' w') := Lib.hid fun W' h => by
          have h1 := hW W' h
          have h2 := h1.size
          exact HIH.out k2 n2 s2 l2 A2 c2 k3 n3 s3 l3 A3 c3 W' S (fun b hb => by have := HS.out b hb; omega) (hd0.keep (Same.of_below h1 HS.out)) (TyR.keep (Same.of_below h1 HS.out) hd')
        clear hr hr' hd0 hd' hW
        rw [← HT.out] at HD
        have HLL := Lib.hid HL.out
        go_wp2
        refine wp_region_K (fun w' => Below wr.heap.size wr w') (fun j => true) (by kernel_rfl) ?_
        refine wpK_take0 (v := ?_) (a' := ?_) 0 rfl (by kernel_rfl) (by kernel_rfl) (by kernel_rfl) (by kernel_rfl) (fun _ _ _ h => h) ?_ ?_ ?_
        rotate_left 2
        · refine .inl ⟨by kernel_rfl, ?_⟩; intro wS hS; clear hS; go_simp; with_reducible rfl
        · go_simp; with_reducible rfl
        refine wpK_take (v := ?_) (a' := ?_) 1 rfl (by kernel_rfl) (by kernel_rfl) (by kernel_rfl) (by kernel_rfl) (by kernel_rfl) (fun _ _ _ h => h) (below_drew1 (Below.refl _ _)) ?_ ?_ ?_
        rotate_left 2
        · refine .inl ⟨by kernel_rfl, ?_⟩; intro wS hS; have q5 := HC1.out _ hS; have q6 := HC2.out _ hS; go_simp; with_reducible rfl
        · go_simp; with_reducible rfl
        refine wpK_take0 (v := ?_) (a' := ?_) 2 rfl (by kernel_rfl) (by kernel_rfl) (by kernel_rfl) (by kernel_rfl) (fun _ _ _ h => h) ?_ ?_ ?_
        rotate_left 2
        · refine .inl ⟨by kernel_rfl, ?_⟩; intro wS hS; clear hS; go_simp; with_reducible rfl
        · go_simp; with_reducible rfl
        refine wpK_take0 (v := ?_) (a' := ?_) 3 rfl (by kernel_rfl) (by kernel_rfl) (by kernel_rfl) (by kernel_rfl) (fun _ _ _ h => h) ?_ ?_ ?_
        rotate_left 2
        · refine .inl ⟨by kernel_rfl, ?_⟩; intro wS hS; clear hS; go_simp; with_reducible rfl
        · go_simp; with_reducible rfl
        refine wpK_take (v := (.agg #[.int .i64 k2, .int .i64 n2, .string s2, .slice A2 l2.length c2])) (a' := ?_) 4 rfl (by kernel_rfl) (by kernel_rfl) (by kernel_rfl) (by kernel_rfl) (by kernel_rfl) (fun _ _ _ h => h) (below_drew1 (Below.refl _ _)) ?_ ?_ ?_
        rotate_left 1
        · exact yieldsIf_load_mid (by kernel_rfl) 25 (.tmp 44) rfl b (o + j * 4) (by go_simp) _ _ (fun wS hS => HR.out _ hS) Try.underlying25 rfl (tySize _ _ _ _)
        · go_simp; with_reducible rfl
        refine wpK_take0 (v := ?_) (a' := ?_) 5 rfl (by kernel_rfl) (by kernel_rfl) (by kernel_rfl) (by kernel_rfl) (fun _ _ _ h => h) ?_ ?_ ?_
        rotate_left 2
        · refine .inl ⟨by kernel_rfl, ?_⟩; intro wS hS; clear hS; go_simp; with_reducible rfl
        · go_simp; with_reducible rfl
        refine wpK_take (v := ?_) (a' := ?_) 6 rfl (by kernel_rfl) (by kernel_rfl) (by kernel_rfl) (by kernel_rfl) (by kernel_rfl) (fun _ _ _ h => h) (below_drew1 (Below.refl _ _)) ?_ ?_ ?_
        rotate_left 2
        · refine .inl ⟨by kernel_rfl, ?_⟩; intro wS hS; have q5 := HC1.out _ hS; have q6 := HC2.out _ hS; go_simp; with_reducible rfl
        · go_simp; with_reducible rfl
        refine wpK_take0 (v := ?_) (a' := ?_) 7 rfl (by kernel_rfl) (by kernel_rfl) (by kernel_rfl) (by kernel_rfl) (fun _ _ _ h => h) ?_ ?_ ?_
        rotate_left 2
        · refine .inl ⟨by kernel_rfl, ?_⟩; intro wS hS; clear hS; go_simp; with_reducible rfl
        · go_simp; with_reducible rfl
        refine wpK_take0 (v := ?_) (a' := ?_) 8 rfl (by kernel_rfl) (by kernel_rfl) (by kernel_rfl) (by kernel_rfl) (fun _ _ _ h => h) ?_ ?_ ?_
        rotate_left 2
        · refine .inl ⟨by kernel_rfl, ?_⟩; intro wS hS; clear hS; go_simp; with_reducible rfl
        · go_simp; with_reducible rfl
        refine wpK_take (v := (.agg #[.int .i64 k3, .int .i64 n3, .string s3, .slice A3 l3.length c3])) (a' := ?_) 9 rfl (by kernel_rfl) (by kernel_rfl) (by kernel_rfl) (by kernel_rfl) (by kernel_rfl) (fun _ _ _ h => h) (below_drew1 (Below.refl _ _)) ?_ ?_ ?_
        rotate_left 1
        · exact yieldsIf_load_mid (by kernel_rfl) 25 (.tmp 49) rfl b' (o' + j * 4) (by go_simp) _ _ (fun wS hS => HR'.out _ hS) Try.underlying25 rfl (tySize _ _ _ _)
        · go_simp; with_reducible rfl
        refine wpK_one 10 rfl (by kernel_rfl) (fun K hK => ?_)
        have HKK := Lib.hid hK
        clear hK
        cases hsj : sameL (l.take (j + 1)) (l'.take (j + 1))
        · have HSJ := Lib.hid hsj
          clear hsj
          go_wp2_with fail
          refine (HD.out _ (below_drew1 (Below.refl _ _))).mono ?_
          rw [HSJ.out]
          rintro e w1 ⟨rfl, hb1⟩
          have HM := Lib.hid hb1
          clear hb1
          go_wp2
          refine HKK.out _ _ (fun _ hS => hS.trans (HM.out.mono (by simp))) ?_
          refine wpK_one 11 rfl (by kernel_rfl) (fun K hK => ?_)
          have HKK := Lib.hid hK
          clear hK
          go_wp2
          refine HKK.out _ _ (fun _ hS => hS) ?_
          refine wpK_end (by kernel_rfl) ?_ _
          go_wp2
          go_ret
          exact ⟨ret_bool (by rw [HE.out, HST.out HSJ.out]; rfl), HX.out _ (HB.out.trans ((below_drew1 (Below.refl _ _)).trans (HM.out.mono hz)))⟩
        · have HSJ := Lib.hid hsj
          clear hsj
          go_wp2_with fail
          refine (HD.out _ (below_drew1 (Below.refl _ _))).mono ?_
          rw [HSJ.out]
          rintro e w1 ⟨rfl, hb1⟩
          have HM := Lib.hid hb1
          clear hb1
          go_wp2
          refine HKK.out _ _ (fun _ hS => hS.trans (HM.out.mono (by simp))) ?_
          refine wpK_one 11 rfl (by kernel_rfl) (fun K hK => ?_)
          have HKK := Lib.hid hK
          clear hK
          go_wp2
          refine HKK.out _ _ (fun _ hS => hS) ?_
          refine wpK_end (by kernel_rfl) ?_ _
          go_wp2
          go_roundw
          case rel => exact ⟨j + 1, by omega, by go_num, HSJ.out, HB.out.trans ((below_drew1 (Below.refl _ _)).trans (HM.out.mono hz))⟩
          case measure => simp [intOf]; omega
      · obtain rfl : j = l.length := by omega
        go_wp2
        go_ret
        have hfin : sameL l l' = true := by
          have := HSM.out
          rw [List.take_length, HL.out, List.take_length] at this; exact this
        exact ⟨ret_bool (by rw [HE.out, hfin]; rfl), HX.out _ HB.out⟩
end Go.Proofs.Ytgdclchpccbifaa
