/-
  THE REFERENCE's Vars, Put, renamed, Canon.
-/
import Derived.Test.YtgdclchpccbifaaTyP
namespace Go.Proofs.Ytgdclchpccbifaa
open Go.ChangeShapes Go.WideShapes Go.ChangeAt Go.RowKit
set_option linter.unusedVariables false
theorem placeR_neg {vs : List Int} {x : Int} : placeR vs x < 0 ↔ x ∉ vs := by
  unfold placeR
  split <;> simp_all
theorem vstep_yes {vs : List Int} {t : Tt} (h1 : t.kind = 1) (h2 : t.num ∉ vs) : (vstep vs t).1 = vs ++ [t.num] := by unfold vstep; simp only; rw [if_pos ⟨h1, h2⟩]
theorem vstep_no {vs : List Int} {t : Tt} (h : ¬ (t.kind = 1 ∧ t.num ∉ vs)) : (vstep vs t).1 = vs := by unfold vstep; simp only; rw [if_neg h]
/-- At the head of a round of the reference's Vars. -/
structure VarAt (w1 : World) (base : Nat) (vs : List Int) (v : Value) (wr : World) : Prop where
  own : wr.ownsRow base 3 1 v vs.length (cells vs)
  below : Below base w1 wr
theorem var_next {w1 wr w2 : World} {vs : List Int} {x : Int} {v v' : Value} (h : VarAt w1 w1.heap.size vs v wr) (hown : w2.ownsRow w1.heap.size 3 1 v' (vs.length + 1) (cells vs ++ [.int .i64 x])) (hg : (wr.alloc (.cells #[.int .i64 x] 3)).grownBy w2 v.ownBlock) :
    VarAt w1 w1.heap.size (vs ++ [x]) v' w2 := by
  refine ⟨by rw [List.length_append, cells_app]; exact hown, ?_⟩
  have hz := h.below.size
  refine (h.below.trans ((below_new wr (.cells #[.int .i64 x] 3)).mono hz)).grown hg (by simp; omega) fun k hk => (h.own.lt k hk).1
set_option maxRecDepth 100000 in
set_option maxHeartbeats 2000000 in
theorem rvars_any (d : Nat) (k n : Int) (s : ByteArray) (l : List Tt) (A : Option Addr) (c : Nat) (w : World) (S : Nat → Prop) (hS : ∀ b, S b → b < w.heap.size) (hfew : (pre (.mk k n s l)).length ≤ 1048576) (h : TyRd w S d (.mk k n s l) [.int .i64 k, .int .i64 n, .string s, .slice A l.length c]) :
    Calls Try.prog 27 #[.agg #[.int .i64 k, .int .i64 n, .string s, .slice A l.length c]] w (IntsMade w (varsT (.mk k n s l))) := by
  have hb0 := below_new w (.cells #[.int .i64 k, .int .i64 n, .string s, .slice A l.length c] 25)
  have HC := Lib.hid (ofTy_any 0 d k n s l A c (w.alloc (.cells #[.int .i64 k, .int .i64 n, .string s, .slice A l.length c] 25)) S (fun b hb => by have := hS b hb; simp; omega) hfew (h.keep (Same.of_below hb0 hS)))
  have HB0 := Lib.hid hb0
  have HS := Lib.hid hS
  have HF : Hid (varsT (.mk k n s l) = (scan vstep [] (pre (.mk k n s l))).1) := Lib.hid rfl
  have HFEW := Lib.hid hfew
  clear h hb0 hS hfew
  generalize pre (.mk k n s l) = P at *
  go_enter Try.func27, Try.ntmps27
  go_wp2_with fail
  refine HC.out.mono ?_
  rintro e w1 ⟨A1, c1, rows, rfl, ho, hb1⟩
  have hbw : Below w.heap.size w w1 := below_then HB0.out hb1
  have HR := Lib.hid (ho.rows)
  have HBW := Lib.hid hbw
  have hwz : w.heap.size ≤ w1.heap.size := hbw.size
  clear ho hb1 hbw
  have hPl := HFEW.out
  go_wp2
  go_loopw [3, 5] (fun v z wr => ∃ j : Nat, j ≤ P.length ∧ z = .int .i64 j ∧ VarAt w1 w1.heap.size (scan vstep [] (P.take j)).1 v wr) (fun _ z _ => P.length - (intOf z).toNat)
  case atStart => exact ⟨0, Nat.zero_le _, rfl, World.ownsRow_nil _ _ _ _, Below.refl _ _⟩
  case round =>
    obtain ⟨j, hj, rfl, hat⟩ := hrel
    have HAT := Lib.hid hat
    have hvl : (scan vstep [] (P.take j)).1.length ≤ 1048576 := by
      have := vscan_le (P.take j) []
      have h2 : (P.take j).length ≤ P.length := List.length_take_le' _ _
      simp at this; omega
    obtain ⟨A5, c5, hv⟩ := own_form hat.own
    clear hat
    by_cases hlt : j < P.length
    · obtain ⟨b, o, cs, rfl, hSb, hr, hd⟩ := HR.out.at_ hlt
      obtain ⟨A2, c2, hr2, hd2⟩ := nd_part hr hd
      obtain ⟨hn2, _, _⟩ := TyR.bounds hd2
      have hblt : b < w1.heap.size := by
        rcases hSb with hx | hx
        · have h1 := HS.out b hx; omega
        · exact hx.2
      have hvl1 : (scan vstep [] (P.take j)).1.length + 1 ≤ 1048576 := by
        have := vscan_le (P.take j) []
        rw [List.length_take] at this
        simp at this; omega
      have HST := Lib.hid (vstep_take hlt)
      generalize P[j] = x at *
      generalize (scan vstep [] (P.take j)).1 = vs at *
      subst hv
      have HRG : Hid (∀ W', Below w1.heap.size w1 W' → W'.cell? ⟨b, o + j * 47 + 22, none⟩ = some (.int .i64 x.kind) ∧ W'.cell? ⟨b, o + j * 47 + 22 + 1, none⟩ = some (.int .i64 x.num)) := Lib.hid fun W' h => ⟨range_keep hr2 h hblt 0 _ rfl, range_keep hr2 h hblt 1 _ rfl⟩
      obtain ⟨q0, q1⟩ := HRG.out wr HAT.out.below
      have HI : Hid (IntsAt wr wr.heap.size A5 vs) := Lib.hid (ints_own HAT.out.own).2.1
      clear hr hd hr2 hd2 hSb
      by_cases hk : x.kind = 1
      · have e1 : (x.kind == 1) = true := by simpa using hk
        have HK := Lib.hid hk
        clear hk
        by_cases hm : x.num ∈ vs
        · have e2 : ¬ placeR vs x.num < 0 := fun h => placeR_neg.1 h hm
          have e2 : decide (placeR vs x.num < 0) = false := by simpa using e2
          have HN := Lib.hid (vstep_no (vs := vs) (t := x) fun h => h.2 hm)
          clear hm
          go_wp2_with (go_at_call 53; refine (place_any vs x.num A5 c5 hvl _ _ HI.out).mono ?_; rintro e w' ⟨rfl, rfl⟩)
          go_roundw
          case rel => exact ⟨j + 1, by omega, by go_num, by rw [HST.out, HN.out]; exact HAT.out⟩
          case measure => simp [intOf]; omega
        · have e2 : placeR vs x.num < 0 := placeR_neg.2 hm
          have e2 : decide (placeR vs x.num < 0) = true := by simpa using e2
          have HN := Lib.hid (vstep_yes HK.out hm)
          clear hm
          obtain ⟨i0, hi, hi0, hi1, hi2⟩ := info_parts intInfo
          have HI0 := Lib.hid (And.intro hi (And.intro hi0 (And.intro hi1 hi2)))
          clear hi hi0 hi1 hi2
          have HO := Lib.hid (HAT.out.own.alloc (.cells #[.int .i64 x.num] 3))
          have hwr : w1.heap.size ≤ wr.heap.size := HAT.out.below.size
          go_wp2_with (first
            | (go_at_call 53; refine (place_any vs x.num A5 c5 hvl _ _ HI.out).mono ?_; rintro e w' ⟨rfl, rfl⟩)
            | (at_builtin; refine wpList_append_own_at _ rfl (.tmp 32) (.tmp 39) 35 rfl w1.heap.size 3 i0 (.int .i64 0) 1 8 Try.underlying35 HI0.out.1 HI0.out.2.1 HI0.out.2.2.1 HI0.out.2.2.2 rfl (by decide) (.slice A5 vs.length c5) vs.length (cells vs) rfl HO.out ⟨wr.heap.size, 0, none⟩ 1 1 [.int .i64 x.num] rfl rfl ?c1 ?c2 ?c3 ?c4 ?c5 ?_))
          case c1 => exact new_cells wr [.int .i64 x.num] 3
          case c2 => simp [Value.oneCell']
          case c3 => unfold maxLen; omega
          case c4 => omega
          case c5 => simp; omega
          intro v' w2 hown2 hgrow _ _
          obtain ⟨A4, n4, c4, rfl⟩ := own_slice hown2
          have HX := Lib.hid (And.intro hown2 hgrow)
          clear hown2 hgrow
          go_wp2
          go_roundw
          case rel => exact ⟨j + 1, by omega, by go_num, by rw [HST.out, HN.out]; exact var_next HAT.out HX.out.1 HX.out.2⟩
          case measure => simp [intOf]; omega
      · have e1 : (x.kind == 1) = false := by simpa using hk
        have HN := Lib.hid (vstep_no (vs := vs) (t := x) fun h => hk h.1)
        clear hk
        go_wp2
        go_roundw
        case rel => exact ⟨j + 1, by omega, by go_num, by rw [HST.out, HN.out]; exact HAT.out⟩
        case measure => simp [intOf]; omega
    · obtain rfl : j = P.length := by omega
      rw [List.take_length] at *
      subst hv
      go_wp2
      go_ret
      rw [HF.out]
      obtain ⟨_, f2, f3, f4⟩ := ints_own HAT.out.own
      exact ⟨A5, c5, rfl, f2, f3, f4, fun ad e => by subst e; have := (HAT.out.own.lt _ rfl).1; omega, HBW.out.trans (HAT.out.below.mono hwz)⟩
set_option maxRecDepth 100000 in
set_option maxHeartbeats 2000000 in
theorem rput_any {ls : List Tt} {Al : Option Addr} {cl : Nat} (hls : ls.length ≤ 1048576) : ∀ (d : Nat) (k n : Int) (s : ByteArray) (l : List Tt) (A : Option Addr) (c : Nat) (w : World) (S : Nat → Prop), (∀ b, S b → b < w.heap.size) → TyRd w S d (.mk k n s l) [.int .i64 k, .int .i64 n, .string s, .slice A l.length c] → Rows TyR 4 w S Al ls →
      Calls Try.prog 29 #[.agg #[.int .i64 k, .int .i64 n, .string s, .slice A l.length c], .slice Al ls.length cl] w (Made w w.heap.size (rputT ls (.mk k n s l))) := by
  intro d
  induction d with
  | zero => intro k n s l A c w S _ h; exact h.elim
  | succ d ih =>
    intro k n s l A c w S hS h hRR
    have h00 := h
    obtain ⟨A', c', hcs, hn, hl, hs, hk⟩ := h
    simp only [List.cons.injEq, Value.slice.injEq, and_true, true_and] at hcs
    obtain ⟨rfl, rfl⟩ := hcs
    have HK := Lib.hid hk
    have HS := Lib.hid hS
    have HIH := Lib.hid ih
    have H00 := Lib.hid h00
    have HRR := Lib.hid hRR
    clear hk hS ih h00 hRR
    by_cases hk1 : k = 1
    case pos =>
      have e1 : (k == 1) = true := by simpa using hk1
      have HW : Hid (Below w.heap.size w ((w.alloc (.cells #[.int .i64 k, .int .i64 n, .string s, .slice A l.length c] 25)).alloc (.cells #[.int .i64 0, .int .i64 0, .string ⟨#[]⟩, .slice none 0 0] 25))) := Lib.hid ((below_new _ _).alloc (by simp) _)
      by_cases hcond : 0 ≤ n ∧ n < ls.length
      · obtain ⟨h0, h1⟩ := hcond
        obtain ⟨m, rfl⟩ := Int.eq_ofNat_of_zero_le h0
        have hm : m < ls.length := by omega
        have HE : Hid (rputT ls (.mk k m s l) = ls[m]) := Lib.hid (by rw [rputT, if_pos hk1, dif_pos (by omega)]; rfl)
        clear hk1
        obtain ⟨b, o, cs, rfl, hSb, hr, hd⟩ := HRR.out.at_ hm
        rw [HE.out]
        generalize ls[m] = x at *
        obtain ⟨k2, n2, s2, l2⟩ := x
        obtain ⟨A2, c2, hcs, _⟩ := TyR.open_ hd
        simp only [Tt.kind, Tt.num, Tt.name, Tt.args] at hcs
        subst hcs
        obtain ⟨d0, hd0⟩ := hd
        have HC : Hid (Calls Try.prog 48 #[.agg #[.int .i64 k2, .int .i64 n2, .string s2, .slice A2 l2.length c2]] (((w.alloc (.cells #[.int .i64 k, .int .i64 (m : Int), .string s, .slice A l.length c] 25)).alloc (.cells #[.int .i64 0, .int .i64 0, .string ⟨#[]⟩, .slice none 0 0] 25))) (Made (((w.alloc (.cells #[.int .i64 k, .int .i64 (m : Int), .string s, .slice A l.length c] 25)).alloc (.cells #[.int .i64 0, .int .i64 0, .string ⟨#[]⟩, .slice none 0 0] 25))) (w.heap.size + 2) (.mk k2 n2 s2 l2))) := Lib.hid (by
          have := copyTy_any d0 k2 n2 s2 l2 A2 c2 (((w.alloc (.cells #[.int .i64 k, .int .i64 (m : Int), .string s, .slice A l.length c] 25)).alloc (.cells #[.int .i64 0, .int .i64 0, .string ⟨#[]⟩, .slice none 0 0] 25))) S (fun x hx => by have := HS.out x hx; have := HW.out.size; omega) (hd0.keep (Same.of_below HW.out HS.out))
          rw [World.size_alloc, World.size_alloc] at this
          exact this)
        have HRow : Hid ((((w.alloc (.cells #[.int .i64 k, .int .i64 (m : Int), .string s, .slice A l.length c] 25)).alloc (.cells #[.int .i64 0, .int .i64 0, .string ⟨#[]⟩, .slice none 0 0] 25))).rangeAt b (o + m * 4) [.int .i64 k2, .int .i64 n2, .string s2, .slice A2 l2.length c2]) := Lib.hid (range_same hr (Same.of_below HW.out HS.out) hSb)
        clear hr hd0 hSb
        go_enter Try.func29, Try.ntmps29
        go_wp2_with (refine wpList_load_mid rfl 25 _ rfl b (o + m * 4) rfl _ _ HRow.out Try.underlying25 rfl (tySize _ _ _ _) ?_)
        refine HC.out.mono ?_
        rintro e w3 ⟨A6, c6, rfl, h6, h7⟩
        have HN := Lib.hid (And.intro h6 h7)
        clear h6 h7
        have HRS : Hid (w3.heap[w.heap.size + 1]? = some (.cells #[.int .i64 0, .int .i64 0, .string ⟨#[]⟩, .slice none 0 0] 25 (0, 0))) := Lib.hid ((HN.out.2.block _ (by simp)).trans (heap_alloc2_new _ _ _))
        go_wp2_with (refine wpList_store_row rfl 25 _ _ rfl (w.heap.size + 1) _ rfl rfl 25 #[.int .i64 0, .int .i64 0, .string ⟨#[]⟩, .slice none 0 0] HRS.out (tySizeA _ _ _ _) rfl (one4 _ _ _ _ _ _) ?_)
        refine bodyPost_ret (v := .agg #[.int .i64 k2, .int .i64 n2, .string s2, .slice A6 l2.length c6]) (results_cell_row rfl _ _ (w.heap.size + 1) 25 _ (0, 0) _ rfl (setRow_row HRS.out) Try.underlying25 rfl (tySizeA _ _ _ _)) rfl ?_
        obtain ⟨f1, f2⟩ := boxed_end (w := w) (b := w.heap.size + 1) (r := #[.int .i64 k2, .int .i64 n2, .string s2, .slice A6 l2.length c6]) HN.out.1 (by omega) (by omega) (below_then ((below_new w _).alloc (by simp) _) (HN.out.2.mono (by simp)))
        exact ⟨A6, c6, rfl, f1, f2⟩
      · have HE : Hid (rputT ls (.mk k n s l) = .mk k n s l) := Lib.hid (by rw [rputT, if_pos hk1, dif_neg hcond])
        clear hk1
        rw [HE.out]
        have HC : Hid (Calls Try.prog 48 #[.agg #[.int .i64 k, .int .i64 n, .string s, .slice A l.length c]] (((w.alloc (.cells #[.int .i64 k, .int .i64 n, .string s, .slice A l.length c] 25)).alloc (.cells #[.int .i64 0, .int .i64 0, .string ⟨#[]⟩, .slice none 0 0] 25))) (Made (((w.alloc (.cells #[.int .i64 k, .int .i64 n, .string s, .slice A l.length c] 25)).alloc (.cells #[.int .i64 0, .int .i64 0, .string ⟨#[]⟩, .slice none 0 0] 25))) (w.heap.size + 2) (.mk k n s l))) := Lib.hid (by
          have := copyTy_any (d + 1) k n s l A c (((w.alloc (.cells #[.int .i64 k, .int .i64 n, .string s, .slice A l.length c] 25)).alloc (.cells #[.int .i64 0, .int .i64 0, .string ⟨#[]⟩, .slice none 0 0] 25))) S (fun x hx => by have := HS.out x hx; have := HW.out.size; omega) (H00.out.keep (Same.of_below HW.out HS.out))
          rw [World.size_alloc, World.size_alloc] at this
          exact this)
        by_cases h0 : 0 ≤ n
        · have g1 : decide (0 ≤ n) = true := by simpa using h0
          have g2 : decide (n < ls.length) = false := by simp only [decide_eq_false_iff_not]; exact fun h => hcond ⟨h0, h⟩
          clear hcond h0
          go_enter Try.func29, Try.ntmps29
          go_wp2_with fail
          refine HC.out.mono ?_
          rintro e w3 ⟨A6, c6, rfl, h6, h7⟩
          have HN := Lib.hid (And.intro h6 h7)
          clear h6 h7
          have HRS : Hid (w3.heap[w.heap.size + 1]? = some (.cells #[.int .i64 0, .int .i64 0, .string ⟨#[]⟩, .slice none 0 0] 25 (0, 0))) := Lib.hid ((HN.out.2.block _ (by simp)).trans (heap_alloc2_new _ _ _))
          go_wp2_with (refine wpList_store_row rfl 25 _ _ rfl (w.heap.size + 1) _ rfl rfl 25 #[.int .i64 0, .int .i64 0, .string ⟨#[]⟩, .slice none 0 0] HRS.out (tySizeA _ _ _ _) rfl (one4 _ _ _ _ _ _) ?_)
          refine bodyPost_ret (v := .agg #[.int .i64 k, .int .i64 n, .string s, .slice A6 l.length c6]) (results_cell_row rfl _ _ (w.heap.size + 1) 25 _ (0, 0) _ rfl (setRow_row HRS.out) Try.underlying25 rfl (tySizeA _ _ _ _)) rfl ?_
          obtain ⟨f1, f2⟩ := boxed_end (w := w) (b := w.heap.size + 1) (r := #[.int .i64 k, .int .i64 n, .string s, .slice A6 l.length c6]) HN.out.1 (by omega) (by omega) (below_then ((below_new w _).alloc (by simp) _) (HN.out.2.mono (by simp)))
          exact ⟨A6, c6, rfl, f1, f2⟩
        · have g1 : decide (0 ≤ n) = false := by simpa using h0
          clear hcond h0
          go_enter Try.func29, Try.ntmps29
          go_wp2_with fail
          refine HC.out.mono ?_
          rintro e w3 ⟨A6, c6, rfl, h6, h7⟩
          have HN := Lib.hid (And.intro h6 h7)
          clear h6 h7
          have HRS : Hid (w3.heap[w.heap.size + 1]? = some (.cells #[.int .i64 0, .int .i64 0, .string ⟨#[]⟩, .slice none 0 0] 25 (0, 0))) := Lib.hid ((HN.out.2.block _ (by simp)).trans (heap_alloc2_new _ _ _))
          go_wp2_with (refine wpList_store_row rfl 25 _ _ rfl (w.heap.size + 1) _ rfl rfl 25 #[.int .i64 0, .int .i64 0, .string ⟨#[]⟩, .slice none 0 0] HRS.out (tySizeA _ _ _ _) rfl (one4 _ _ _ _ _ _) ?_)
          refine bodyPost_ret (v := .agg #[.int .i64 k, .int .i64 n, .string s, .slice A6 l.length c6]) (results_cell_row rfl _ _ (w.heap.size + 1) 25 _ (0, 0) _ rfl (setRow_row HRS.out) Try.underlying25 rfl (tySizeA _ _ _ _)) rfl ?_
          obtain ⟨f1, f2⟩ := boxed_end (w := w) (b := w.heap.size + 1) (r := #[.int .i64 k, .int .i64 n, .string s, .slice A6 l.length c6]) HN.out.1 (by omega) (by omega) (below_then ((below_new w _).alloc (by simp) _) (HN.out.2.mono (by simp)))
          exact ⟨A6, c6, rfl, f1, f2⟩

    case neg =>
    have HE := Lib.hid (rput_con (ls := ls) (n := n) (s := s) (l := l) hk1)
    have e1 : (k == 1) = false := by simpa using hk1
    clear hk1
    go_enter Try.func29, Try.ntmps29
    go_wp2
    go_loopw [6] (fun z wr => ∃ (j : Nat) (sv : Value), j ≤ l.length ∧ z = .int .i64 j ∧ Grow (W3 w k n s A l.length c k n s) (w.heap.size + 3) (w.heap.size + 2) k n s ((l.take j).map (rputT ls)) sv wr) (fun z _ => l.length - (intOf z).toNat)
    case atStart => exact ⟨0, .slice none 0 0, Nat.zero_le _, rfl, W3.start _ _ _ _ _ _ _ _ _ _⟩
    case round =>
      obtain ⟨j, sv, hj, rfl, hat⟩ := hrel
      have HAT := Lib.hid hat
      have hz := hat.size
      clear hat
      have q0 := W3.arg HAT.out (Below.refl _ _)
      by_cases hlt : j < l.length
      · obtain ⟨b, o, cs, rfl, hSb, hr, hd⟩ := HK.out j _ (List.getElem?_eq_getElem hlt)
        have HT : Hid ((l.take (j + 1)).map (rputT ls) = (l.take j).map (rputT ls) ++ [rputT ls l[j]]) := Lib.hid (take_map _ _ _ hlt)
        generalize l[j] = x at *
        obtain ⟨k2, n2, s2, l2⟩ := x
        cases d with
        | zero => exact hd.elim
        | succ d =>
        have hd0 := hd
        obtain ⟨A2, c2, rfl, _⟩ := hd
        have hwr := HAT.out.below (by omega) (W3.below w k n s (some ⟨b, o, none⟩) l.length c k n s)
        have HR : Hid (∀ W', Below wr.heap.size wr W' → W'.rangeAt b (o + j * 4) [.int .i64 k2, .int .i64 n2, .string s2, .slice A2 l2.length c2]) := Lib.hid fun W' hW => range_same hr (Same.of_below (hwr.trans (hW.mono (by omega))) HS.out) hSb
        have HC : Hid (∀ W', Below wr.heap.size wr W' → W'.cell? ⟨w.heap.size + 2, 3, none⟩ = some sv) := Lib.hid fun W' hW => HAT.out.cell hW
        have HC2 : Hid (∀ W', Below wr.heap.size wr W' → W'.cell? ⟨w.heap.size, 3, none⟩ = some (.slice (some ⟨b, o, none⟩) l.length c)) := Lib.hid fun W' hW => W3.arg HAT.out hW
        have HD : Hid (∀ W', Below wr.heap.size wr W' → Calls Try.prog 29 #[.agg #[.int .i64 k2, .int .i64 n2, .string s2, .slice A2 l2.length c2], .slice Al ls.length cl] W' (Made W' W'.heap.size (rputT ls (.mk k2 n2 s2 l2)))) := Lib.hid fun W' hW => by
          have h1 : Below w.heap.size w W' := hwr.trans (hW.mono (by omega))
          have h2 := h1.size
          exact HIH.out k2 n2 s2 l2 A2 c2 W' S (fun b hb => by have := HS.out b hb; omega) (hd0.keep (Same.of_below h1 HS.out)) (HRR.out.keep (Same.of_below h1 HS.out))
        have HU : Hid (((l.take j).map (rputT ls)).length = j) := Lib.hid (by rw [List.length_map, List.length_take]; omega)
        clear hr hd0 hwr
        go_wp2
        refine wp_region_K (fun w' => Below wr.heap.size wr w') (fun j => j != 10 && j != 12) (by kernel_rfl) ?_
        refine wpK_take0 (v := ?_) (a' := ?_) 0 rfl (by kernel_rfl) (by kernel_rfl) (by kernel_rfl) (by kernel_rfl) (fun _ _ _ h => h) ?_ ?_ ?_
        rotate_left 2
        · refine .inl ⟨by kernel_rfl, ?_⟩; intro wS hS; clear hS; go_simp; with_reducible rfl
        · go_simp; with_reducible rfl
        refine wpK_take (v := ?_) (a' := ?_) 1 rfl (by kernel_rfl) (by kernel_rfl) (by kernel_rfl) (by kernel_rfl) (by kernel_rfl) (fun _ _ _ h => h) (below_drew1 (Below.refl _ _)) ?_ ?_ ?_
        rotate_left 2
        · refine .inl ⟨by kernel_rfl, ?_⟩; intro wS hS; have q1 := HC.out _ hS; have q2 := HC2.out _ hS; go_simp; with_reducible rfl
        · go_simp; with_reducible rfl
        refine wpK_take0 (v := ?_) (a' := ?_) 2 rfl (by kernel_rfl) (by kernel_rfl) (by kernel_rfl) (by kernel_rfl) (fun _ _ _ h => h) ?_ ?_ ?_
        rotate_left 2
        · refine .inl ⟨by kernel_rfl, ?_⟩; intro wS hS; clear hS; go_simp; with_reducible rfl
        · go_simp; with_reducible rfl
        refine wpK_take (v := ?_) (a' := ?_) 3 rfl (by kernel_rfl) (by kernel_rfl) (by kernel_rfl) (by kernel_rfl) (by kernel_rfl) (fun _ _ _ h => h) (below_drew1 (Below.refl _ _)) ?_ ?_ ?_
        rotate_left 2
        · refine .inl ⟨by kernel_rfl, ?_⟩; intro wS hS; have q1 := HC.out _ hS; have q2 := HC2.out _ hS; go_simp; with_reducible rfl
        · go_simp; with_reducible rfl
        refine wpK_take0 (v := ?_) (a' := ?_) 4 rfl (by kernel_rfl) (by kernel_rfl) (by kernel_rfl) (by kernel_rfl) (fun _ _ _ h => h) ?_ ?_ ?_
        rotate_left 2
        · refine .inl ⟨by kernel_rfl, ?_⟩; intro wS hS; clear hS; go_simp; with_reducible rfl
        · go_simp; with_reducible rfl
        refine wpK_take0 (v := ?_) (a' := ?_) 5 rfl (by kernel_rfl) (by kernel_rfl) (by kernel_rfl) (by kernel_rfl) (fun _ _ _ h => h) ?_ ?_ ?_
        rotate_left 2
        · refine .inl ⟨by kernel_rfl, ?_⟩; intro wS hS; clear hS; go_simp; with_reducible rfl
        · go_simp; with_reducible rfl
        refine wpK_take (v := (.agg #[.int .i64 k2, .int .i64 n2, .string s2, .slice A2 l2.length c2])) (a' := ?_) 6 rfl (by kernel_rfl) (by kernel_rfl) (by kernel_rfl) (by kernel_rfl) (by kernel_rfl) (fun _ _ _ h => h) (below_drew1 (Below.refl _ _)) ?_ ?_ ?_
        rotate_left 1
        · exact yieldsIf_load_mid (by kernel_rfl) 25 (.tmp 47) rfl b (o + j * 4) (by go_simp) _ _ (fun wS hS => HR.out _ hS) Try.underlying25 rfl (tySize _ _ _ _)
        · go_simp; with_reducible rfl
        refine wpK_take0 (v := ?_) (a' := ?_) 7 rfl (by kernel_rfl) (by kernel_rfl) (by kernel_rfl) (by kernel_rfl) (fun _ _ _ h => h) ?_ ?_ ?_
        rotate_left 2
        · refine .inl ⟨by kernel_rfl, ?_⟩; intro wS hS; clear hS; go_simp; with_reducible rfl
        · go_simp; with_reducible rfl
        refine wpK_one 8 rfl (by kernel_rfl) (fun K hK => ?_)
        have HKK := Lib.hid hK
        clear hK
        go_wp2_with fail
        refine (HD.out _ (below_drew1 (Below.refl _ _))).mono ?_
        rintro e w1 ⟨A3, c3, rfl, h3, hb1⟩
        have HM := Lib.hid (And.intro h3 hb1)
        have hz1 : wr.heap.size ≤ w1.heap.size := hb1.size
        clear h3 hb1
        go_wp2
        refine HKK.out _ _ (fun _ hS => hS.trans (HM.out.2.mono (by simp))) ?_
        refine wpK_one 9 rfl (by kernel_rfl) (fun K hK => ?_)
        have HKK := Lib.hid hK
        clear hK
        go_wp2
        refine HKK.out _ _ (fun _ hS => hS.trans ((below_new _ _).mono hS.size)) ?_
        refine wpK_one 10 rfl (by kernel_rfl) (fun K hK => ?_)
        have HKK := Lib.hid hK
        clear hK
        have hbw : Below wr.heap.size wr (w1.alloc (.cells #[.int .i64 ((rputT ls (Tt.mk k2 n2 s2 l2))).kind, .int .i64 ((rputT ls (Tt.mk k2 n2 s2 l2))).num, .string ((rputT ls (Tt.mk k2 n2 s2 l2))).name, .slice A3 ((rputT ls (Tt.mk k2 n2 s2 l2))).args.length c3] 25)) :=
          (below_drew1 (Below.refl wr.heap.size wr)).trans ((HM.out.2.mono (by simp)).trans ((below_new _ _).mono hz1))
        obtain ⟨rows, hrows⟩ := HAT.out.own.below hbw
        have HRO := Lib.hid hrows
        have HBW := Lib.hid hbw
        obtain ⟨i0, hi, hi0, hi1, hi2⟩ := info_parts tyInfo
        have HI := Lib.hid (And.intro hi (And.intro hi0 (And.intro hi1 hi2)))
        clear hi hi0 hi1 hi2 hrows hbw
        have hus := HU.out
        refine wpList_append_own_at _ rfl (.tmp 43) (.tmp 51) 23 rfl (w.heap.size + 3) 25 i0 (.agg #[.int .i64 0, .int .i64 0, .string ⟨#[]⟩, .slice none 0 0]) 4 56 Try.underlying23 HI.out.1 HI.out.2.1 HI.out.2.2.1 HI.out.2.2.2 rfl (by decide)
          sv ((l.take j).map (rputT ls)).length rows.flatten rfl HRO.out.2.2.1 ⟨w1.heap.size, 0, none⟩ 1 1 [.int .i64 ((rputT ls (Tt.mk k2 n2 s2 l2))).kind, .int .i64 ((rputT ls (Tt.mk k2 n2 s2 l2))).num, .string ((rputT ls (Tt.mk k2 n2 s2 l2))).name, .slice A3 ((rputT ls (Tt.mk k2 n2 s2 l2))).args.length c3] rfl rfl ?c1 ?c2 ?c3 ?c4 ?c5 ?_
        case c1 => exact new_cells _ _ _
        case c2 => simp [Value.oneCell']
        case c3 => rw [hus]; unfold maxLen; omega
        case c4 => rw [hus]; omega
        case c5 => simp; omega
        intro v' w2 hown2 hgrow _ hv'
        obtain ⟨A4, n4, c4, rfl⟩ := own_slice hown2
        have HO := Lib.hid (And.intro hown2 (And.intro hgrow hv'))
        clear hown2 hgrow hv' hus
        refine wpList_nil ?_
        refine HKK.out _ _ (fun h => absurd h (by decide)) ?_
        refine wpK_one 11 rfl (by kernel_rfl) (fun K hK => ?_)
        have HKK := Lib.hid hK
        clear hK
        go_wp2
        refine HKK.out _ _ (fun _ hS => hS) ?_
        refine wpK_one 12 rfl (by kernel_rfl) (fun K hK => ?_)
        have HKK := Lib.hid hK
        clear hK
        obtain ⟨e1, e2⟩ := grow_cell HAT.out HBW.out HRO.out HO.out.2.1
        go_wp2
        refine HKK.out _ _ (fun h => absurd h (by decide)) ?_
        refine wpK_end (by kernel_rfl) ?_ _
        have HN := Lib.hid (grow_next HAT.out HBW.out HRO.out HO.out.1 HO.out.2.1 HO.out.2.2 HM.out.1 HM.out.2)
        clear HKK HO HRO HI HBW HD HC HC2 HM e1 e2
        go_wp2
        go_roundw
        case rel => exact ⟨j + 1, _, by omega, by go_num, by rw [HT.out]; exact HN.out⟩
        case measure => simp [intOf]; omega
      · obtain rfl : j = l.length := by omega
        rw [List.take_length] at HAT
        obtain ⟨A5, c5, hsv, _, _⟩ := HAT.out.own.form
        rw [List.length_map] at hsv
        subst hsv
        go_wp2_with (first | (refine wpList_load_row rfl 25 _ rfl (w.heap.size + 2) rfl 25 #[.int .i64 k, .int .i64 n, .string s, .slice A5 l.length c5] (0, 0) _ HAT.out.box Try.underlying25 rfl (tySizeA _ _ _ _) ?_) | (refine wpList_store_row rfl 25 _ _ rfl (w.heap.size + 1) _ rfl rfl 25 #[.int .i64 0, .int .i64 0, .string ⟨#[]⟩, .slice none 0 0] (W3.res HAT.out) (tySizeA _ _ _ _) rfl (one4 _ _ _ _ _ _) ?_))
        refine bodyPost_ret (v := .agg #[.int .i64 k, .int .i64 n, .string s, .slice A5 l.length c5]) (results_cell_row rfl _ _ (w.heap.size + 1) 25 _ (0, 0) _ rfl (setRow_row (W3.res HAT.out)) Try.underlying25 rfl (tySizeA _ _ _ _)) rfl ?_
        rw [HE.out]
        have hat := HAT.out
        have hlm : (l.map (rputT ls)).length = l.length := List.length_map _
        rw [← hlm] at hat
        obtain ⟨f1, f2⟩ := W3.made (us := l.map (rputT ls)) (A' := A5) (c' := c5) (by rw [hlm] at hat ⊢; exact hat) hn (by rw [hlm]; exact hl) hs #[.int .i64 k, .int .i64 n, .string s, .slice A5 l.length c5]
        rw [hlm] at f1
        refine ⟨A5, c5, by simp only [Tt.kind, Tt.num, Tt.name, Tt.args, hlm], ?_, f2⟩
        simp only [Tt.kind, Tt.num, Tt.name, Tt.args, hlm]
        exact f1
theorem placeR_in {vs : List Int} (h : vs.length ≤ 1048576) {n : Int} : -9223372036854775808 ≤ placeR vs n ∧ placeR vs n ≤ 9223372036854775807 := by
  unfold placeR
  split
  · rename_i hm
    have := List.idxOf_lt_length_of_mem hm
    omega
  · omega
set_option maxRecDepth 100000 in
set_option maxHeartbeats 2000000 in
theorem ren_any {vs : List Int} {Av : Option Addr} {cv : Nat} (hvs : vs.length ≤ 1048576) : ∀ (d : Nat) (k n : Int) (s : ByteArray) (l : List Tt) (A : Option Addr) (c : Nat) (w : World) (S : Nat → Prop), (∀ b, S b → b < w.heap.size) → TyRd w S d (.mk k n s l) [.int .i64 k, .int .i64 n, .string s, .slice A l.length c] → IntsAt w w.heap.size Av vs →
      Calls Try.prog 52 #[.agg #[.int .i64 k, .int .i64 n, .string s, .slice A l.length c], .slice Av vs.length cv] w (Made w w.heap.size (renT vs (.mk k n s l))) := by
  intro d
  induction d with
  | zero => intro k n s l A c w S _ h; exact h.elim
  | succ d ih =>
    intro k n s l A c w S hS h hRR
    have h00 := h
    obtain ⟨A', c', hcs, hn, hl, hs, hk⟩ := h
    simp only [List.cons.injEq, Value.slice.injEq, and_true, true_and] at hcs
    obtain ⟨rfl, rfl⟩ := hcs
    have HK := Lib.hid hk
    have HS := Lib.hid hS
    have HIH := Lib.hid ih
    have H00 := Lib.hid h00
    have HRR := Lib.hid hRR
    clear hk hS ih h00 hRR
    by_cases hk1 : k = 1
    case pos =>
      have e1 : (k == 1) = true := by simpa using hk1
      have HE : Hid (renT vs (.mk k n s l) = .mk 1 (placeR vs n) ⟨#[]⟩ []) := Lib.hid (by rw [renT, if_pos hk1])
      have hp := placeR_in (n := n) hvs
      have HI2 : Hid (IntsAt ((w.alloc (.cells #[.int .i64 k, .int .i64 n, .string s, .slice A l.length c] 25)).alloc (.cells #[.int .i64 0, .int .i64 0, .string ⟨#[]⟩, .slice none 0 0] 25)) w.heap.size Av vs) := Lib.hid (HRR.out.below ((below_new _ _).alloc (by simp) _))
      clear hk1
      rw [HE.out]
      go_enter Try.func52, Try.ntmps52
      go_wp2_with (go_at_call 53; refine (place_any vs n Av cv hvs _ _ HI2.out).mono ?_; rintro e w' ⟨rfl, rfl⟩)
      refine bodyPost_ret (v := .agg #[.int .i64 1, .int .i64 (placeR vs n), .string ⟨#[]⟩, .slice none 0 0]) (results_cell_row rfl _ _ (w.heap.size + 1) 25 _ (0, 0) _ rfl (heap_alloc2_new _ _ _) Try.underlying25 rfl (tySizeA _ _ _ _)) rfl ?_
      exact ⟨none, 0, rfl, TyR.mk hp (by simp) (by decide) Rows.nil, (below_new _ _).alloc (by simp) _⟩

    case neg =>
    have HE := Lib.hid (ren_con (vs := vs) (n := n) (s := s) (l := l) hk1)
    have e1 : (k == 1) = false := by simpa using hk1
    clear hk1
    go_enter Try.func52, Try.ntmps52
    go_wp2
    go_loopw [6] (fun z wr => ∃ (j : Nat) (sv : Value), j ≤ l.length ∧ z = .int .i64 j ∧ Grow (W3 w k n s A l.length c k n s) (w.heap.size + 3) (w.heap.size + 2) k n s ((l.take j).map (renT vs)) sv wr) (fun z _ => l.length - (intOf z).toNat)
    case atStart => exact ⟨0, .slice none 0 0, Nat.zero_le _, rfl, W3.start _ _ _ _ _ _ _ _ _ _⟩
    case round =>
      obtain ⟨j, sv, hj, rfl, hat⟩ := hrel
      have HAT := Lib.hid hat
      have hz := hat.size
      clear hat
      have q0 := W3.arg HAT.out (Below.refl _ _)
      by_cases hlt : j < l.length
      · obtain ⟨b, o, cs, rfl, hSb, hr, hd⟩ := HK.out j _ (List.getElem?_eq_getElem hlt)
        have HT : Hid ((l.take (j + 1)).map (renT vs) = (l.take j).map (renT vs) ++ [renT vs l[j]]) := Lib.hid (take_map _ _ _ hlt)
        generalize l[j] = x at *
        obtain ⟨k2, n2, s2, l2⟩ := x
        cases d with
        | zero => exact hd.elim
        | succ d =>
        have hd0 := hd
        obtain ⟨A2, c2, rfl, _⟩ := hd
        have hwr := HAT.out.below (by omega) (W3.below w k n s (some ⟨b, o, none⟩) l.length c k n s)
        have HR : Hid (∀ W', Below wr.heap.size wr W' → W'.rangeAt b (o + j * 4) [.int .i64 k2, .int .i64 n2, .string s2, .slice A2 l2.length c2]) := Lib.hid fun W' hW => range_same hr (Same.of_below (hwr.trans (hW.mono (by omega))) HS.out) hSb
        have HC : Hid (∀ W', Below wr.heap.size wr W' → W'.cell? ⟨w.heap.size + 2, 3, none⟩ = some sv) := Lib.hid fun W' hW => HAT.out.cell hW
        have HC2 : Hid (∀ W', Below wr.heap.size wr W' → W'.cell? ⟨w.heap.size, 3, none⟩ = some (.slice (some ⟨b, o, none⟩) l.length c)) := Lib.hid fun W' hW => W3.arg HAT.out hW
        have HD : Hid (∀ W', Below wr.heap.size wr W' → Calls Try.prog 52 #[.agg #[.int .i64 k2, .int .i64 n2, .string s2, .slice A2 l2.length c2], .slice Av vs.length cv] W' (Made W' W'.heap.size (renT vs (.mk k2 n2 s2 l2)))) := Lib.hid fun W' hW => by
          have h1 : Below w.heap.size w W' := hwr.trans (hW.mono (by omega))
          have h2 := h1.size
          exact HIH.out k2 n2 s2 l2 A2 c2 W' S (fun b hb => by have := HS.out b hb; omega) (hd0.keep (Same.of_below h1 HS.out)) ((HRR.out.below h1).more h2)
        have HU : Hid (((l.take j).map (renT vs)).length = j) := Lib.hid (by rw [List.length_map, List.length_take]; omega)
        clear hr hd0 hwr
        go_wp2
        refine wp_region_K (fun w' => Below wr.heap.size wr w') (fun j => j != 10 && j != 12) (by kernel_rfl) ?_
        refine wpK_take0 (v := ?_) (a' := ?_) 0 rfl (by kernel_rfl) (by kernel_rfl) (by kernel_rfl) (by kernel_rfl) (fun _ _ _ h => h) ?_ ?_ ?_
        rotate_left 2
        · refine .inl ⟨by kernel_rfl, ?_⟩; intro wS hS; clear hS; go_simp; with_reducible rfl
        · go_simp; with_reducible rfl
        refine wpK_take (v := ?_) (a' := ?_) 1 rfl (by kernel_rfl) (by kernel_rfl) (by kernel_rfl) (by kernel_rfl) (by kernel_rfl) (fun _ _ _ h => h) (below_drew1 (Below.refl _ _)) ?_ ?_ ?_
        rotate_left 2
        · refine .inl ⟨by kernel_rfl, ?_⟩; intro wS hS; have q1 := HC.out _ hS; have q2 := HC2.out _ hS; go_simp; with_reducible rfl
        · go_simp; with_reducible rfl
        refine wpK_take0 (v := ?_) (a' := ?_) 2 rfl (by kernel_rfl) (by kernel_rfl) (by kernel_rfl) (by kernel_rfl) (fun _ _ _ h => h) ?_ ?_ ?_
        rotate_left 2
        · refine .inl ⟨by kernel_rfl, ?_⟩; intro wS hS; clear hS; go_simp; with_reducible rfl
        · go_simp; with_reducible rfl
        refine wpK_take (v := ?_) (a' := ?_) 3 rfl (by kernel_rfl) (by kernel_rfl) (by kernel_rfl) (by kernel_rfl) (by kernel_rfl) (fun _ _ _ h => h) (below_drew1 (Below.refl _ _)) ?_ ?_ ?_
        rotate_left 2
        · refine .inl ⟨by kernel_rfl, ?_⟩; intro wS hS; have q1 := HC.out _ hS; have q2 := HC2.out _ hS; go_simp; with_reducible rfl
        · go_simp; with_reducible rfl
        refine wpK_take0 (v := ?_) (a' := ?_) 4 rfl (by kernel_rfl) (by kernel_rfl) (by kernel_rfl) (by kernel_rfl) (fun _ _ _ h => h) ?_ ?_ ?_
        rotate_left 2
        · refine .inl ⟨by kernel_rfl, ?_⟩; intro wS hS; clear hS; go_simp; with_reducible rfl
        · go_simp; with_reducible rfl
        refine wpK_take0 (v := ?_) (a' := ?_) 5 rfl (by kernel_rfl) (by kernel_rfl) (by kernel_rfl) (by kernel_rfl) (fun _ _ _ h => h) ?_ ?_ ?_
        rotate_left 2
        · refine .inl ⟨by kernel_rfl, ?_⟩; intro wS hS; clear hS; go_simp; with_reducible rfl
        · go_simp; with_reducible rfl
        refine wpK_take (v := (.agg #[.int .i64 k2, .int .i64 n2, .string s2, .slice A2 l2.length c2])) (a' := ?_) 6 rfl (by kernel_rfl) (by kernel_rfl) (by kernel_rfl) (by kernel_rfl) (by kernel_rfl) (fun _ _ _ h => h) (below_drew1 (Below.refl _ _)) ?_ ?_ ?_
        rotate_left 1
        · exact yieldsIf_load_mid (by kernel_rfl) 25 (.tmp 34) rfl b (o + j * 4) (by go_simp) _ _ (fun wS hS => HR.out _ hS) Try.underlying25 rfl (tySize _ _ _ _)
        · go_simp; with_reducible rfl
        refine wpK_take0 (v := ?_) (a' := ?_) 7 rfl (by kernel_rfl) (by kernel_rfl) (by kernel_rfl) (by kernel_rfl) (fun _ _ _ h => h) ?_ ?_ ?_
        rotate_left 2
        · refine .inl ⟨by kernel_rfl, ?_⟩; intro wS hS; clear hS; go_simp; with_reducible rfl
        · go_simp; with_reducible rfl
        refine wpK_one 8 rfl (by kernel_rfl) (fun K hK => ?_)
        have HKK := Lib.hid hK
        clear hK
        go_wp2_with fail
        refine (HD.out _ (below_drew1 (Below.refl _ _))).mono ?_
        rintro e w1 ⟨A3, c3, rfl, h3, hb1⟩
        have HM := Lib.hid (And.intro h3 hb1)
        have hz1 : wr.heap.size ≤ w1.heap.size := hb1.size
        clear h3 hb1
        go_wp2
        refine HKK.out _ _ (fun _ hS => hS.trans (HM.out.2.mono (by simp))) ?_
        refine wpK_one 9 rfl (by kernel_rfl) (fun K hK => ?_)
        have HKK := Lib.hid hK
        clear hK
        go_wp2
        refine HKK.out _ _ (fun _ hS => hS.trans ((below_new _ _).mono hS.size)) ?_
        refine wpK_one 10 rfl (by kernel_rfl) (fun K hK => ?_)
        have HKK := Lib.hid hK
        clear hK
        have hbw : Below wr.heap.size wr (w1.alloc (.cells #[.int .i64 ((renT vs (Tt.mk k2 n2 s2 l2))).kind, .int .i64 ((renT vs (Tt.mk k2 n2 s2 l2))).num, .string ((renT vs (Tt.mk k2 n2 s2 l2))).name, .slice A3 ((renT vs (Tt.mk k2 n2 s2 l2))).args.length c3] 25)) :=
          (below_drew1 (Below.refl wr.heap.size wr)).trans ((HM.out.2.mono (by simp)).trans ((below_new _ _).mono hz1))
        obtain ⟨rows, hrows⟩ := HAT.out.own.below hbw
        have HRO := Lib.hid hrows
        have HBW := Lib.hid hbw
        obtain ⟨i0, hi, hi0, hi1, hi2⟩ := info_parts tyInfo
        have HI := Lib.hid (And.intro hi (And.intro hi0 (And.intro hi1 hi2)))
        clear hi hi0 hi1 hi2 hrows hbw
        have hus := HU.out
        refine wpList_append_own_at _ rfl (.tmp 30) (.tmp 38) 23 rfl (w.heap.size + 3) 25 i0 (.agg #[.int .i64 0, .int .i64 0, .string ⟨#[]⟩, .slice none 0 0]) 4 56 Try.underlying23 HI.out.1 HI.out.2.1 HI.out.2.2.1 HI.out.2.2.2 rfl (by decide)
          sv ((l.take j).map (renT vs)).length rows.flatten rfl HRO.out.2.2.1 ⟨w1.heap.size, 0, none⟩ 1 1 [.int .i64 ((renT vs (Tt.mk k2 n2 s2 l2))).kind, .int .i64 ((renT vs (Tt.mk k2 n2 s2 l2))).num, .string ((renT vs (Tt.mk k2 n2 s2 l2))).name, .slice A3 ((renT vs (Tt.mk k2 n2 s2 l2))).args.length c3] rfl rfl ?c1 ?c2 ?c3 ?c4 ?c5 ?_
        case c1 => exact new_cells _ _ _
        case c2 => simp [Value.oneCell']
        case c3 => rw [hus]; unfold maxLen; omega
        case c4 => rw [hus]; omega
        case c5 => simp; omega
        intro v' w2 hown2 hgrow _ hv'
        obtain ⟨A4, n4, c4, rfl⟩ := own_slice hown2
        have HO := Lib.hid (And.intro hown2 (And.intro hgrow hv'))
        clear hown2 hgrow hv' hus
        refine wpList_nil ?_
        refine HKK.out _ _ (fun h => absurd h (by decide)) ?_
        refine wpK_one 11 rfl (by kernel_rfl) (fun K hK => ?_)
        have HKK := Lib.hid hK
        clear hK
        go_wp2
        refine HKK.out _ _ (fun _ hS => hS) ?_
        refine wpK_one 12 rfl (by kernel_rfl) (fun K hK => ?_)
        have HKK := Lib.hid hK
        clear hK
        obtain ⟨e1, e2⟩ := grow_cell HAT.out HBW.out HRO.out HO.out.2.1
        go_wp2
        refine HKK.out _ _ (fun h => absurd h (by decide)) ?_
        refine wpK_end (by kernel_rfl) ?_ _
        have HN := Lib.hid (grow_next HAT.out HBW.out HRO.out HO.out.1 HO.out.2.1 HO.out.2.2 HM.out.1 HM.out.2)
        clear HKK HO HRO HI HBW HD HC HC2 HM e1 e2
        go_wp2
        go_roundw
        case rel => exact ⟨j + 1, _, by omega, by go_num, by rw [HT.out]; exact HN.out⟩
        case measure => simp [intOf]; omega
      · obtain rfl : j = l.length := by omega
        rw [List.take_length] at HAT
        obtain ⟨A5, c5, hsv, _, _⟩ := HAT.out.own.form
        rw [List.length_map] at hsv
        subst hsv
        go_wp2_with (first | (refine wpList_load_row rfl 25 _ rfl (w.heap.size + 2) rfl 25 #[.int .i64 k, .int .i64 n, .string s, .slice A5 l.length c5] (0, 0) _ HAT.out.box Try.underlying25 rfl (tySizeA _ _ _ _) ?_) | (refine wpList_store_row rfl 25 _ _ rfl (w.heap.size + 1) _ rfl rfl 25 #[.int .i64 0, .int .i64 0, .string ⟨#[]⟩, .slice none 0 0] (W3.res HAT.out) (tySizeA _ _ _ _) rfl (one4 _ _ _ _ _ _) ?_))
        refine bodyPost_ret (v := .agg #[.int .i64 k, .int .i64 n, .string s, .slice A5 l.length c5]) (results_cell_row rfl _ _ (w.heap.size + 1) 25 _ (0, 0) _ rfl (setRow_row (W3.res HAT.out)) Try.underlying25 rfl (tySizeA _ _ _ _)) rfl ?_
        rw [HE.out]
        have hat := HAT.out
        have hlm : (l.map (renT vs)).length = l.length := List.length_map _
        rw [← hlm] at hat
        obtain ⟨f1, f2⟩ := W3.made (us := l.map (renT vs)) (A' := A5) (c' := c5) (by rw [hlm] at hat ⊢; exact hat) hn (by rw [hlm]; exact hl) hs #[.int .i64 k, .int .i64 n, .string s, .slice A5 l.length c5]
        rw [hlm] at f1
        refine ⟨A5, c5, by simp only [Tt.kind, Tt.num, Tt.name, Tt.args, hlm], ?_, f2⟩
        simp only [Tt.kind, Tt.num, Tt.name, Tt.args, hlm]
        exact f1

def CanonMade8 (w : World) (t : Tt) (vs : List Int) (e : Ending) (w' : World) : Prop := ∃ v A c, e = .returned (.tuple #[v, .slice A vs.length c]) ∧ Val w' t v ∧ IntsAt w' w'.heap.size A vs ∧ vs.length ≤ c ∧ Below w.heap.size w w'
theorem results_canon8 {tmps : Array Value} {w : World} {g : Nat} {v : Value} {cs : Array Value} {t : TypeId} {fr : Nat × Nat} (hp : tmps.getD 2 undef = .pointer (some ⟨g, 0, none⟩)) (hv : tmps.getD 3 undef = v) (hg : w.heap[g]? = some (.cells cs t fr)) (hi : (Try.prog.info? 25).map (·.size) = some cs.size) :
    (results Try.f24 tmps).run Try.prog w = .ok (.tuple #[.agg cs, v]) w := by
  have hp' : tmps[2]?.getD undef = .pointer (some ⟨g, 0, none⟩) := by simpa using hp
  have hv' : tmps[3]?.getD undef = v := by simpa using hv
  simp [results, Try.f24, hp', hv', asAddr, run_loadVar_row w g t 25 _ _ _ hg Try.underlying25 rfl hi]
set_option maxRecDepth 100000 in
set_option maxHeartbeats 1000000 in
theorem rcanon_any (d : Nat) (k n : Int) (s : ByteArray) (l : List Tt) (A : Option Addr) (c : Nat) (w : World) (hsz : (pre (.mk k n s l)).length ≤ 1048576) (h : TyRd w (Lt w.heap.size) d (.mk k n s l) [.int .i64 k, .int .i64 n, .string s, .slice A l.length c]) :
    Calls Try.prog 24 #[.agg #[.int .i64 k, .int .i64 n, .string s, .slice A l.length c]] w (CanonMade8 w (renT (varsT (.mk k n s l)) (.mk k n s l)) (varsT (.mk k n s l))) := by
  have hb2 : Below w.heap.size w ((w.alloc (.cells #[.int .i64 k, .int .i64 n, .string s, .slice A l.length c] 25)).alloc (.cells #[.int .i64 0, .int .i64 0, .string ⟨#[]⟩, .slice none 0 0] 25)) := (below_new _ _).alloc (by simp) _
  have hvl := Nat.le_trans (vars_le (.mk k n s l)) hsz
  have HV : Hid (∀ W', Below w.heap.size w W' → Calls Try.prog 27 #[.agg #[.int .i64 k, .int .i64 n, .string s, .slice A l.length c]] W' (IntsMade W' (varsT (.mk k n s l)))) := Lib.hid fun W' hW => rvars_any d k n s l A c W' (Lt w.heap.size) (fun b hb => Nat.lt_of_lt_of_le hb hW.size) hsz (h.keep (Same.lt hW))
  have HR : Hid (∀ W', Below w.heap.size w W' → ∀ (Av : Option Addr) (cv : Nat), IntsAt W' W'.heap.size Av (varsT (.mk k n s l)) → Calls Try.prog 52 #[.agg #[.int .i64 k, .int .i64 n, .string s, .slice A l.length c], .slice Av (varsT (.mk k n s l)).length cv] W' (Made W' W'.heap.size (renT (varsT (.mk k n s l)) (.mk k n s l)))) := Lib.hid fun W' hW Av cv hI => ren_any hvl d k n s l A c W' (Lt w.heap.size) (fun b hb => Nat.lt_of_lt_of_le hb hW.size) (h.keep (Same.lt hW)) hI
  have HB := Lib.hid hb2
  clear hb2 h hsz hvl
  generalize varsT (.mk k n s l) = vs at *
  generalize renT vs (.mk k n s l) = T at *
  go_enter Try.func24, Try.ntmps24
  go_wp2_with fail
  refine (HV.out _ HB.out).mono ?_
  rintro e w1 ⟨A5, c5, rfl, hi, hc1, hc2, hne, hb1⟩
  have hbx := below_then HB.out hb1
  have HNE : Hid (∀ ad : Addr, A5 = some ad → w.heap.size + 2 ≤ ad.block) := Lib.hid fun ad e => by have := hne ad e; simp at this; omega
  clear hne
  have hr0 : w1.heap[w.heap.size]? = some (.cells #[.int .i64 k, .int .i64 n, .string s, .slice A l.length c] 25 (0, 0)) := (hb1.block _ (by simp; omega)).trans (heap_alloc2_old _ _ _)
  have hr1 : w1.heap[w.heap.size + 1]? = some (.cells #[.int .i64 0, .int .i64 0, .string ⟨#[]⟩, .slice none 0 0] 25 (0, 0)) := (hb1.block _ (by simp)).trans (heap_alloc2_new _ _ _)
  have hlt := lt_of_cells hr1
  have HM := Lib.hid (And.intro hi (And.intro hbx (And.intro hr0 (And.intro hr1 hc1))))
  clear hi hbx hr0 hr1 hb1 hc1 hc2
  go_wp2_with (refine wpList_load_row rfl 25 _ rfl w.heap.size rfl 25 #[.int .i64 k, .int .i64 n, .string s, .slice A l.length c] (0, 0) _ HM.out.2.2.1 Try.underlying25 rfl (tySizeA _ _ _ _) ?_)
  refine (HR.out _ HM.out.2.1 _ _ HM.out.1).mono ?_
  rintro e w3 ⟨A6, c6, rfl, h6, h7⟩
  have HN := Lib.hid (And.intro h6 h7)
  clear h6 h7
  have HRS : Hid (w3.heap[w.heap.size + 1]? = some (.cells #[.int .i64 0, .int .i64 0, .string ⟨#[]⟩, .slice none 0 0] 25 (0, 0))) := Lib.hid ((HN.out.2.block _ hlt).trans HM.out.2.2.2.1)
  go_wp2_with (refine wpList_store_row rfl 25 _ _ rfl (w.heap.size + 1) _ rfl rfl 25 #[.int .i64 0, .int .i64 0, .string ⟨#[]⟩, .slice none 0 0] HRS.out (tySizeA _ _ _ _) rfl (one4 _ _ _ _ _ _) ?_)
  refine bodyPost_ret (v := .tuple #[.agg #[.int .i64 T.kind, .int .i64 T.num, .string T.name, .slice A6 T.args.length c6], .slice A5 vs.length c5]) (results_canon8 rfl rfl (setRow_row HRS.out) (tySizeA _ _ _ _)) rfl ?_
  have hz1 := HM.out.2.1.size
  obtain ⟨f1, f2⟩ := boxed_end (w := w) (b := w.heap.size + 1) (r := #[.int .i64 T.kind, .int .i64 T.num, .string T.name, .slice A6 T.args.length c6]) HN.out.1 hlt (by omega) (below_then HM.out.2.1 HN.out.2)
  exact ⟨_, A5, c5, rfl, ⟨A6, c6, rfl, TyR.more (fun b hb => hb.2) f1⟩, ints_after HM.out.1 HN.out.2 hlt _ (fun ad e => by have := HNE.out ad e; omega), HM.out.2.2.2.2, f2⟩
end Go.Proofs.Ytgdclchpccbifaa
