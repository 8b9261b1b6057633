/-
  THE REFERENCE's good, Formed, Size.
-/
import Derived.Test.YtgdclchpccbifaaTyI
namespace Go.Proofs.Ytgdclchpccbifaa
open Go.ChangeShapes Go.WideShapes Go.ChangeAt Go.RowKit
set_option linter.unusedVariables false
theorem good_cells {w w1 : World} {x y z u : Value} (h : Below (w.alloc (.cells #[x, y, z, u] 25)).heap.size (w.alloc (.cells #[x, y, z, u] 25)) w1) : w1.cell? ⟨w.heap.size, 2, none⟩ = some z ∧ w1.cell? ⟨w.heap.size, 3, none⟩ = some u := by
  have hrow : w1.heap[w.heap.size]? = some (.cells #[x, y, z, u] 25 (0, 0)) := (h.block _ (by simp)).trans (heap_alloc_new _ _)
  exact ⟨by rw [cell_of_row w1 _ 2 _ _ _ hrow]; rfl, by rw [cell_of_row w1 _ 3 _ _ _ hrow]; rfl⟩
set_option maxRecDepth 100000 in
set_option maxHeartbeats 2000000 in
theorem good_any (k n : Int) (s : ByteArray) (l : List Tt) (A : Option Addr) (c : Nat) (w : World) (hs : s.size ≤ 1048576) (hl : l.length ≤ 1048576) (b : Bool) (hb : goodB (.mk k n s l) = b) :
    Calls Try.prog 49 #[.agg #[.int .i64 k, .int .i64 n, .string s, .slice A l.length c]] w fun e w' => e = .returned (.bool b) ∧ Below w.heap.size w w' := by
  have HB := Lib.hid hb
  have HE : Hid (goodB (.mk k n s l) = (if k = 1 then decide (0 ≤ n) && decide (s = ⟨#[]⟩) && decide (l.length = 0)
  else if k ≠ 2 ∨ n ≠ 0 then false
  else if s ≠ ⟨#[114, 101, 102]⟩ ∧ s ≠ ⟨#[45, 62]⟩ ∧ s ≠ ⟨#[42]⟩ ∧ lowB s = false then false
  else decide ((argsB s).1 ≤ l.length) && decide ((l.length : Int) ≤ (argsB s).2))) := Lib.hid rfl
  have HBN := Lib.hid (below_new w (.cells #[.int .i64 k, .int .i64 n, .string s, .slice A l.length c] 25))
  clear hb
  by_cases hk : k = 1
  case pos =>
    have q1 : (k == 1) = true := by simpa using hk
    have HK := Lib.hid hk
    clear hk
    go_enter Try.func49, Try.ntmps49
    go_wp2
    all_goals go_ret
    all_goals refine ⟨ret_bool ?_, HBN.out⟩
    all_goals rw [← HB.out, HE.out, if_pos HK.out]
    all_goals rw [show decide (s = ⟨#[]⟩) = decide (s.toList = []) from decide_eq_decide.2 (str_is s []).symm]
    all_goals first
      | (rw [Bool.eq_iff_iff]; simp [*]; done)
      | (rw [Bool.eq_iff_iff]; simp [*]; omega)
  have q1 : (k == 1) = false := by simpa using hk
  have HK := Lib.hid hk
  clear hk
  by_cases h2 : k = 2
  case neg =>
    have q2 : (k != 2) = true := by simpa using h2
    have HK2 := Lib.hid h2
    clear h2
    go_enter Try.func49, Try.ntmps49
    go_wp2
    go_ret
    exact ⟨ret_bool (by rw [← HB.out, HE.out, if_neg HK.out, if_pos (.inl HK2.out)]), HBN.out⟩
  have q2 : (k != 2) = false := by simpa using h2
  have HK2 := Lib.hid h2
  clear h2
  by_cases h3 : n = 0
  case neg =>
    have q3 : (n != 0) = true := by simpa using h3
    have HN := Lib.hid h3
    clear h3
    go_enter Try.func49, Try.ntmps49
    go_wp2
    go_ret
    exact ⟨ret_bool (by rw [← HB.out, HE.out, if_neg HK.out, if_pos (.inr HN.out)]), HBN.out⟩
  have q3 : (n != 0) = false := by simpa using h3
  have HN := Lib.hid h3
  clear h3
  have HE3 : Hid (goodB (.mk k n s l) = (if s ≠ ⟨#[114, 101, 102]⟩ ∧ s ≠ ⟨#[45, 62]⟩ ∧ s ≠ ⟨#[42]⟩ ∧ lowB s = false then false
  else decide ((argsB s).1 ≤ l.length) && decide ((l.length : Int) ≤ (argsB s).2))) := Lib.hid (by rw [HE.out, if_neg HK.out, if_neg (by rw [HK2.out, HN.out]; simp)])
  obtain ⟨lo, hi, har⟩ : ∃ lo hi, argsB s = (lo, hi) := ⟨_, _, rfl⟩
  have HAR := Lib.hid har
  have HE4 : Hid (¬ (s ≠ ⟨#[114, 101, 102]⟩ ∧ s ≠ ⟨#[45, 62]⟩ ∧ s ≠ ⟨#[42]⟩ ∧ lowB s = false) → goodB (.mk k n s l) = (decide (lo ≤ l.length) && decide ((l.length : Int) ≤ hi))) := Lib.hid fun h => by rw [HE3.out, if_neg h, HAR.out]
  clear har HE
  by_cases a1 : s = ⟨#[114, 101, 102]⟩
  case pos =>
    have q := str_yes a1
    have HS := Lib.hid a1
    clear a1
    go_enter Try.func49, Try.ntmps49
    go_wp2_with (go_at_call 68; refine (args_any s _).mono ?_; rw [HAR.out]; rintro e w' ⟨rfl, rfl⟩)
    all_goals go_ret
    all_goals refine ⟨ret_bool ?_, HBN.out⟩
    all_goals rw [← HB.out, HE4.out (by simp [HS.out])]
    all_goals first
      | (rw [Bool.eq_iff_iff]; simp [*]; done)
      | (rw [Bool.eq_iff_iff]; simp; omega)
  have a1' := str_no a1
  have Ha1 := Lib.hid a1
  clear a1
  by_cases a2 : s = ⟨#[45, 62]⟩
  case pos =>
    have q := str_yes a2
    have HS := Lib.hid a2
    clear a2
    go_enter Try.func49, Try.ntmps49
    go_wp2_with (go_at_call 68; refine (args_any s _).mono ?_; rw [HAR.out]; rintro e w' ⟨rfl, rfl⟩)
    all_goals go_ret
    all_goals refine ⟨ret_bool ?_, HBN.out⟩
    all_goals rw [← HB.out, HE4.out (by simp [HS.out])]
    all_goals first
      | (rw [Bool.eq_iff_iff]; simp [*]; done)
      | (rw [Bool.eq_iff_iff]; simp; omega)
  have a2' := str_no a2
  have Ha2 := Lib.hid a2
  clear a2
  by_cases a3 : s = ⟨#[42]⟩
  case pos =>
    have q := str_yes a3
    have HS := Lib.hid a3
    clear a3
    go_enter Try.func49, Try.ntmps49
    go_wp2_with (go_at_call 68; refine (args_any s _).mono ?_; rw [HAR.out]; rintro e w' ⟨rfl, rfl⟩)
    all_goals go_ret
    all_goals refine ⟨ret_bool ?_, HBN.out⟩
    all_goals rw [← HB.out, HE4.out (by simp [HS.out])]
    all_goals first
      | (rw [Bool.eq_iff_iff]; simp [*]; done)
      | (rw [Bool.eq_iff_iff]; simp; omega)
  have a3' := str_no a3
  have Ha3 := Lib.hid a3
  clear a3
  cases hlw : lowB s
  · have HLW := Lib.hid hlw
    clear hlw
    go_enter Try.func49, Try.ntmps49
    go_wp2_with (first | (go_at_call 67; refine (low_any s hs _).mono ?_; rw [HLW.out]; rintro e w1 ⟨rfl, hb1⟩; have HB1 := Lib.hid hb1; obtain ⟨z2, z3⟩ := good_cells hb1; clear hb1) | (go_at_call 68; refine (args_any s _).mono ?_; rw [HAR.out]; rintro e w' ⟨rfl, rfl⟩))
    go_ret
    exact ⟨ret_bool (by rw [← HB.out, HE3.out, if_pos ⟨Ha1.out, Ha2.out, Ha3.out, HLW.out⟩]), below_then HBN.out HB1.out⟩
  · have HLW := Lib.hid hlw
    clear hlw
    go_enter Try.func49, Try.ntmps49
    go_wp2_with (first | (go_at_call 67; refine (low_any s hs _).mono ?_; rw [HLW.out]; rintro e w1 ⟨rfl, hb1⟩; have HB1 := Lib.hid hb1; obtain ⟨z2, z3⟩ := good_cells hb1; clear hb1) | (go_at_call 68; refine (args_any s _).mono ?_; rw [HAR.out]; rintro e w' ⟨rfl, rfl⟩))
    all_goals go_ret
    all_goals refine ⟨ret_bool ?_, below_then HBN.out HB1.out⟩
    all_goals rw [← HB.out, HE4.out (by simp [HLW.out])]
    all_goals first
      | (rw [Bool.eq_iff_iff]; simp [*]; done)
      | (rw [Bool.eq_iff_iff]; simp; omega)
/-- The type's cells within a node's row. -/
theorem nd_part {at_ : Int} {w : World} {S : Nat → Prop} {b o : Nat} {cs : List Value} {t : Tt} (hr : w.rangeAt b o cs) (h : (NdR at_).rd w S t cs) : ∃ A c, w.rangeAt b (o + 22) [.int .i64 t.kind, .int .i64 t.num, .string t.name, .slice A t.args.length c] ∧ TyR.rd w S t [.int .i64 t.kind, .int .i64 t.num, .string t.name, .slice A t.args.length c] := by
  obtain ⟨tc, h1, rfl⟩ := h
  obtain ⟨A, c, rfl, _⟩ := TyR.open_ h1
  refine ⟨A, c, fun j v hv => ?_, h1⟩
  have := hr (22 + j) v (by
    rw [List.append_assoc, List.getElem?_append_right (by simp [ndHead, zDec, zPat])]
    rw [show 22 + j - (ndHead at_).length = j by simp [ndHead, zDec, zPat]]
    rw [List.getElem?_append_left (List.getElem?_eq_some_iff.1 hv).1]; exact hv)
  rwa [Nat.add_assoc]
/-- The bounds of a type that is read. -/
theorem TyR.bounds {w : World} {S : Nat → Prop} {t : Tt} {cs : List Value} (h : TyR.rd w S t cs) : (-9223372036854775808 ≤ t.num ∧ t.num ≤ 9223372036854775807) ∧ t.args.length ≤ 1048576 ∧ t.name.size ≤ 1048576 := by
  obtain ⟨A, c, _, h1, h2, h3, _⟩ := TyR.open_ h
  exact ⟨h1, h2, h3⟩
theorem all_stop {l : List Tt} {k : Nat} (hk : k < l.length) (h : goodB l[k] = false) : l.all goodB = false := by
  rw [Bool.eq_false_iff]; intro ha
  have := List.all_eq_true.1 ha _ (List.getElem_mem hk)
  rw [h] at this; cases this
set_option maxRecDepth 100000 in
set_option maxHeartbeats 1000000 in
theorem formed_any (d : Nat) (k n : Int) (s : ByteArray) (l : List Tt) (A : Option Addr) (c : Nat) (w : World) (S : Nat → Prop) (hS : ∀ b, S b → b < w.heap.size) (hfew : (pre (.mk k n s l)).length ≤ 1048576) (h : TyRd w S d (.mk k n s l) [.int .i64 k, .int .i64 n, .string s, .slice A l.length c]) :
    Calls Try.prog 21 #[.agg #[.int .i64 k, .int .i64 n, .string s, .slice A l.length c]] w fun e w' => e = .returned (.bool (formedT (.mk k n s l))) ∧ Below w.heap.size w w' := by
  have hb0 := below_new w (.cells #[.int .i64 k, .int .i64 n, .string s, .slice A l.length c] 25)
  have HC := Lib.hid (ofTy_any 0 d k n s l A c (w.alloc (.cells #[.int .i64 k, .int .i64 n, .string s, .slice A l.length c] 25)) S (fun b hb => by have := hS b hb; simp; omega) hfew (h.keep (Same.of_below hb0 hS)))
  have HB0 := Lib.hid hb0
  have HS := Lib.hid hS
  have HF : Hid (formedT (.mk k n s l) = (pre (.mk k n s l)).all goodB) := Lib.hid rfl
  have HFEW := Lib.hid hfew
  clear h hb0 hS hfew
  generalize pre (.mk k n s l) = P at *
  go_enter Try.func21, Try.ntmps21
  go_wp2_with fail
  refine HC.out.mono ?_
  rintro e w1 ⟨A1, c1, rows, rfl, ho, hb1⟩
  have hbw : Below w.heap.size w w1 := below_then HB0.out hb1
  have HR := Lib.hid (ho.rows)
  have HBW := Lib.hid hbw
  clear ho hb1 hbw
  have hPl := HFEW.out
  go_wp2
  go_loopw [4] (fun z wr => ∃ j : Nat, j ≤ P.length ∧ z = .int .i64 j ∧ (∀ i (hi : i < P.length), i < j → goodB P[i] = true) ∧ Below w1.heap.size w1 wr) (fun z _ => P.length - (intOf z).toNat)
  case atStart => exact ⟨0, Nat.zero_le _, rfl, fun i _ h => absurd h (Nat.not_lt_zero _), Below.refl _ _⟩
  case round =>
    obtain ⟨j, hj, rfl, hall, hb⟩ := hrel
    have HA := Lib.hid hall
    have HB := Lib.hid hb
    clear hall hb
    by_cases hlt : j < P.length
    · obtain ⟨b, o, cs, rfl, hSb, hr, hd⟩ := HR.out.at_ hlt
      obtain ⟨A2, c2, hr2, hd2⟩ := nd_part hr hd
      obtain ⟨_, hl2, hs2⟩ := TyR.bounds hd2
      have HE := Lib.hid (fun (v : Bool) (hv : v = goodB P[j]) => hv)
      have HG : Hid (∀ v : Bool, goodB P[j] = v → v = goodB P[j]) := Lib.hid fun v h => h.symm
      have HST : Hid (goodB P[j] = false → P.all goodB = false) := Lib.hid fun h => all_stop hlt h
      have HNX : Hid (goodB P[j] = true → ∀ i (hi : i < P.length), i < j + 1 → goodB P[i] = true) := Lib.hid fun h i hi hij => by
        by_cases e : i = j
        · subst e; exact h
        · exact HA.out i hi (by omega)
      generalize P[j] = x at *
      obtain ⟨k2, n2, s2, l2⟩ := x
      simp only [Tt.kind, Tt.num, Tt.name, Tt.args] at hr2 hl2 hs2
      have HRR : Hid (wr.rangeAt b (o + j * 47 + 22) [.int .i64 k2, .int .i64 n2, .string s2, .slice A2 l2.length c2]) := Lib.hid (range_keep hr2 HB.out (by
        rcases hSb with hx | hx
        · have h1 := HS.out b hx; have h2 := HBW.out.size; omega
        · exact hx.2))
      clear hr hd hr2 hd2 hSb HE
      cases hg : goodB (.mk k2 n2 s2 l2)
      · have HGG := Lib.hid hg
        clear hg
        go_wp2_with (first | (refine wpList_load_mid rfl 25 _ rfl b (o + j * 47 + 22) rfl _ _ HRR.out Try.underlying25 rfl (tySize _ _ _ _) ?_) | (go_at_call 49; refine (good_any k2 n2 s2 l2 A2 c2 _ hs2 hl2 _ HGG.out).mono ?_; rintro e w2 ⟨rfl, hb2⟩; have HB2 := Lib.hid hb2; clear hb2))
        go_ret
        exact ⟨ret_bool (by rw [HF.out, HST.out HGG.out]), below_then HBW.out (below_then HB.out HB2.out)⟩
      · have HGG := Lib.hid hg
        clear hg
        go_wp2_with (first | (refine wpList_load_mid rfl 25 _ rfl b (o + j * 47 + 22) rfl _ _ HRR.out Try.underlying25 rfl (tySize _ _ _ _) ?_) | (go_at_call 49; refine (good_any k2 n2 s2 l2 A2 c2 _ hs2 hl2 _ HGG.out).mono ?_; rintro e w2 ⟨rfl, hb2⟩; have HB2 := Lib.hid hb2; clear hb2))
        go_roundw
        case rel => exact ⟨j + 1, by omega, by go_num, HNX.out HGG.out, below_then HB.out HB2.out⟩
        case measure => simp [intOf]; omega
    · obtain rfl : j = P.length := by omega
      go_wp2
      go_ret
      refine ⟨ret_bool ?_, below_then HBW.out HB.out⟩
      rw [HF.out]; symm; rw [List.all_eq_true]
      intro x hx
      obtain ⟨i, hi, rfl⟩ := List.getElem_of_mem hx
      exact HA.out i hi hi
end Go.Proofs.Ytgdclchpccbifaa
