/-
  CONTRACTS OF THE REFERENCE's lexer, II: signs, words, names.
-/
import Derived.Test.YtkogfdbmgdajdaaDoorLexR
import Derived.Deep.RegionHeld3
import Derived.Deep.DeepCutAuto
import Derived.IntWalk
namespace Go.Proofs.YtkogfdbmgdajdaaDoor
open Go.ChangeShapes Go.WideShapes Go.ChangeAt Go.RowKit
set_option linter.unusedVariables false
def TabN' (n : Nat) (l : List (List UInt8)) (w : World) (e : Ending) (w' : World) : Prop := ∃ A c, e = .returned (.slice A n c) ∧ StrsAt w' w'.heap.size A l ∧ Below w.heap.size w w'
theorem rwords_n' (w : World) : Calls Tryd.prog 13 #[] w (TabN' 24 Kws w) := rwords_any w
theorem rsigns_n' (w : World) : Calls Tryd.prog 14 #[] w (TabN' 19 Sgs w) := rsigns_any w
theorem eq_mk (t : ByteArray) (x : List UInt8) : ((mkS x).toList == t.toList) = decide (t.data.toList = x) := by
  rw [ByteArray.toList_eq, ByteArray.toList_eq, mkS_list, Bool.eq_iff_iff, beq_iff_eq, decide_eq_true_eq]
  exact eq_comm
theorem in_any (t : ByteArray) (A : Option Addr) (c : Nat) (w : World) (hA : StrsAt w w.heap.size A Kws) : Calls Tryd.prog 48 #[.slice A 24 c, .string t] w fun e w' => e = .returned (.bool (isKw t.data.toList)) ∧ w = w' := by
  have HA := Lib.hid hA
  clear hA
  go_enter Tryd.func48, Tryd.ntmps48
  go_wp2
  go_loop [8] (fun z => ∃ k : Nat, k ≤ 24 ∧ z = .int .i64 k ∧ ∀ i (h : i < Kws.length), i < k → t.data.toList ≠ Kws[i]) (fun z => 24 - (intOf z).toNat)
  case atStart => exact ⟨0, by omega, rfl, fun i _ h => absurd h (Nat.not_lt_zero _)⟩
  case round =>
    obtain ⟨k, hk, rfl, hno⟩ := hrel
    have HN := Lib.hid hno
    clear hno
    by_cases hlt : k < 24
    · have hkl : k < Kws.length := hlt
      obtain ⟨a1, rfl, q1, e1⟩ := HA.out.at_ hkl
      have hq := eq_mk t Kws[k]
      by_cases he : t.data.toList = Kws[k]
      · have HB := Lib.hid (kw_has t k hkl he)
        rw [decide_eq_true he] at hq
        clear he
        generalize mkS Kws[k] = y at *
        go_wp2
        go_ret
        exact ⟨ret_bool HB.out.symm, rfl⟩
      · rw [decide_eq_false he] at hq
        have HE := Lib.hid he
        clear he
        generalize mkS Kws[k] = y at *
        go_wp2
        go_round
        case rel => exact ⟨k + 1, by omega, by go_num, fun i h hi => if hik : i = k then by subst hik; exact HE.out else HN.out i h (by omega)⟩
        case measure => simp [intOf]; omega
    · obtain rfl : k = 24 := by omega
      have HB : Hid (isKw t.data.toList = false) := Lib.hid (by
        refine Bool.eq_false_iff.2 fun h => ?_
        obtain ⟨i, hi, he⟩ := List.getElem_of_mem (List.contains_iff_mem.1 h)
        exact HN.out i hi hi he.symm)
      go_wp2
      go_ret
      exact ⟨ret_bool HB.out.symm, rfl⟩
theorem sign_any (s : ByteArray) (a : Nat) (ha : a ≤ s.size) (hs : s.size ≤ maxLen) (w : World) : Calls Tryd.prog 41 #[.string s, .int .i64 a] w fun e w' => e = .returned (.string (mkS (sy s a))) ∧ Below w.heap.size w w' := by
  have hs' := hs
  unfold maxLen at hs
  go_enter Tryd.func41, Tryd.ntmps41
  go_wp2_with fail
  refine (rsigns_n' _).mono ?_
  rintro e w1 ⟨A, c, rfl, hA, hb1⟩
  have HA := Lib.hid hA
  have HB1 := Lib.hid hb1
  clear hA hb1
  go_wp2
  go_loop [6, 11] (fun x z => ∃ k : Nat, k ≤ 19 ∧ x = .string (mkS (best s a (Sgs.take k))) ∧ z = .int .i64 k) (fun _ z => 19 - (intOf z).toNat)
  case atStart => exact ⟨0, by omega, rfl, rfl⟩
  case round =>
    obtain ⟨k, hk, rfl, rfl⟩ := hrel
    by_cases hlt : k < 19
    · have hkl : k < Sgs.length := hlt
      obtain ⟨a1, rfl, q1, e1⟩ := HA.out.at_ hkl
      have h2 := best_len s a k
      have h3 : Sgs[k].length ≤ 2 := sg_small _ (List.getElem_mem hkl)
      have HB := Lib.hid (best_step s a k hkl)
      generalize Sgs[k] = t at *
      generalize hb : best s a (Sgs.take k) = b at *
      clear hb
      have e3 := mkS_size b
      have e2 := mkS_size t
      obtain ⟨bb, hbb⟩ : ∃ bb, mkS b = bb := ⟨_, rfl⟩
      obtain ⟨tt, htt⟩ : ∃ tt, mkS t = tt := ⟨_, rfl⟩
      rw [hbb] at e3 ⊢
      rw [htt] at e2 e1
      have z1 : bb.size ≤ 2 := by omega
      have z2 : tt.size ≤ 2 := by omega
      cases hp : pre s a t
      · have HL : Hid (best s a (Sgs.take (k + 1)) = b) := Lib.hid (by rw [HB.out, longer, if_neg (by simp [hp])])
        have HP : Hid (pre s a tt.data.toList = false) := Lib.hid (by rw [← htt]; exact hp)
        have HZ : Hid (tt.size ≤ maxLen) := Lib.hid (by unfold maxLen; omega)
        have HBB := Lib.hid hbb
        clear hp e3 e2 h2 h3 hbb htt
        go_wp2_with (first | ((with_reducible refine (rhas_is s tt a ha hs' HZ.out _ HP.out _).mono ?_); rintro e w' ⟨rfl, rfl⟩))
        go_round
        case rel => exact ⟨k + 1, by omega, by rw [HL.out, HBB.out], by go_num⟩
        case measure => simp [intOf]; omega
      · have HP : Hid (pre s a tt.data.toList = true) := Lib.hid (by rw [← htt]; exact hp)
        have HZ : Hid (tt.size ≤ maxLen) := Lib.hid (by unfold maxLen; omega)
        by_cases hl : bb.size < tt.size
        · have HL : Hid (best s a (Sgs.take (k + 1)) = t) := Lib.hid (by rw [HB.out, longer, if_pos ⟨by omega, hp⟩])
          have HTT := Lib.hid htt
          clear hp e3 e2 h2 h3 hbb htt
          go_wp2_with (first | ((with_reducible refine (rhas_is s tt a ha hs' HZ.out _ HP.out _).mono ?_); rintro e w' ⟨rfl, rfl⟩))
          go_round
          case rel => exact ⟨k + 1, by omega, by rw [HL.out, HTT.out], by go_num⟩
          case measure => simp [intOf]; omega
        · have HL : Hid (best s a (Sgs.take (k + 1)) = b) := Lib.hid (by rw [HB.out, longer, if_neg (fun h => hl (by omega))])
          have HBB := Lib.hid hbb
          clear hp e3 e2 h2 h3 hbb htt
          go_wp2_with (first | ((with_reducible refine (rhas_is s tt a ha hs' HZ.out _ HP.out _).mono ?_); rintro e w' ⟨rfl, rfl⟩))
          go_round
          case rel => exact ⟨k + 1, by omega, by rw [HL.out, HBB.out], by go_num⟩
          case measure => simp [intOf]; omega
    · obtain rfl : k = 19 := by omega
      go_wp2
      go_ret
      exact ⟨rfl, HB1.out⟩
theorem in_is (t : ByteArray) (A : Option Addr) (c : Nat) (w : World) (hA : StrsAt w w.heap.size A Kws) (b : Bool) (hb : isKw t.data.toList = b) : Calls Tryd.prog 48 #[.slice A 24 c, .string t] w fun e w' => e = .returned (.bool b) ∧ w = w' := by
  subst hb; exact in_any t A c w hA
theorem after_tab {W0 w4 : World} {g : Nat} {x0 x1 x2 x3 : Value} {t : TypeId} (h : W0.heap[g]? = some (.cells #[x0, x1, x2, x3] t (0, 0))) (hg : g < W0.heap.size) (hb : Below W0.drew.heap.size W0.drew w4) : w4.cell? ⟨g, 2, none⟩ = some x2 ∧ Below W0.heap.size W0 w4 := by
  have h4 : w4.heap[g]? = some (.cells #[x0, x1, x2, x3] t (0, 0)) := (hb.block g hg).trans h
  exact ⟨by rw [Lib.cell_of_heap h4]; rfl, (below_drew1 (Below.refl _ W0)).trans hb⟩
theorem row_tab {W0 w4 : World} {g : Nat} {cs : Array Value} {t : TypeId} (h : W0.heap[g]? = some (.cells cs t (0, 0))) (hg : g < W0.heap.size) (hb : Below W0.drew.heap.size W0.drew w4) : w4.heap[g]? = some (.cells cs t (0, 0)) := (hb.block g hg).trans h
theorem row_set {w : World} {g : Nat} {cs : Array Value} {t : TypeId} {fr : Nat × Nat} (h : w.heap[g]? = some (.cells cs t fr)) (v : Value) : (w.setCell ⟨g, 0, none⟩ v).heap[g]? = some (.cells (cs.setIfInBounds 0 v) t fr) := by
  obtain ⟨hlt, h'⟩ := Array.getElem?_eq_some_iff.1 h
  show (w.heap.modify g _)[g]? = _
  rw [Array.getElem?_eq_getElem (by simpa using hlt), Array.getElem_modify_self, h']
  rfl
theorem row_set_other {w : World} {g g' : Nat} {o : Obj} (h : w.heap[g]? = some o) (hg : g' ≠ g) (v : Value) : (w.setCell ⟨g', 0, none⟩ v).heap[g]? = some o := by
  rw [Below.heap_setCell _ _ _ _ (by exact fun e => hg e.symm)]; exact h
theorem tokI (x y z v : Value) : (Tryd.prog.info? 33).map (·.size) = some (#[x, y, z, v] : Array Value).size := by kernel_rfl
theorem one4 (x y n : Int) (z : ByteArray) : (#[Value.int .i64 x, .int .i64 y, .string z, .int .i64 n] : Array Value).all (·.oneCell') = true := by simp [Value.oneCell']
theorem kindM_name {s : ByteArray} {a e0 : Nat} (h1 : a < e0) (h2 : e0 ≤ s.size) (hl : lt (bt s a) = true) (hu : (s.extract a e0).data.toList ≠ [95]) :
    ((kindM (s.extract a e0) : Nat) : Int) = if isKw (s.extract a e0).data.toList = true then 5 else if (s.extract a e0).toList = [116, 114, 117, 101] ∨ (s.extract a e0).toList = [102, 97, 108, 115, 101] ∨ gr (bt s a) = true then 3 else 2 := by
  have hb : bt (s.extract a e0) 0 = bt s a := by rw [bt_ext h2, if_pos (by omega), Nat.add_zero]
  have hd : dg (bt s a) = false := by rw [dg_false]; have := lt_iff.1 hl; omega
  unfold kindM
  rw [ByteArray.toList_eq, hb, if_neg (by simp [hd]), if_neg (by have := lt_iff.1 hl; omega), if_neg (by simp [hl]), if_neg hu]
  have e : (65 ≤ bt s a ∧ bt s a ≤ 90) ↔ gr (bt s a) = true := by simp [gr]
  simp only [e]
  split
  · rfl
  · split <;> rfl
/-- What name returns. -/
def NamePost (s : ByteArray) (a e0 : Nat) (w : World) (e : Ending) (w' : World) : Prop :=
  e = .returned (.agg #[.int .i64 (kindM (s.extract a e0) : Nat), .int .i64 a, .string (s.extract a e0), .int .i64 0]) ∧ Below w.heap.size w w'
set_option maxHeartbeats 4000000 in
theorem name_any (s : ByteArray) (a e0 : Nat) (h1 : a < e0) (h2 : e0 ≤ s.size) (hs : s.size ≤ maxLen) (hl : lt (bt s a) = true) (hu : (s.extract a e0).data.toList ≠ [95]) (w : World) :
    Calls Tryd.prog 40 #[.string s, .int .i64 a, .int .i64 e0] w (NamePost s a e0 w) := by
  have hs' := hs
  unfold maxLen at hs
  obtain ⟨y, hy⟩ : ∃ y, s.extract a e0 = y := ⟨_, rfl⟩
  go_enter Tryd.func40, Tryd.ntmps40
  go_upto_region 2 with fail
  obtain ⟨W0, hW0⟩ : ∃ W0, (w.alloc (.cells #[.int .i64 0, .int .i64 0, .string ⟨#[]⟩, .int .i64 0] 33)).alloc (.cells #[.int .i64 2, .int .i64 a, .string y, .int .i64 0] 33) = W0 := ⟨_, rfl⟩
  have g0 : W0.heap[w.heap.size + 1]? = some (.cells #[.int .i64 2, .int .i64 a, .string y, .int .i64 0] 33 (0, 0)) := by
    have := heap_new1 (w.alloc (.cells #[.int .i64 0, .int .i64 0, .string ⟨#[]⟩, .int .i64 0] 33)) (.cells #[.int .i64 2, .int .i64 a, .string y, .int .i64 0] 33)
    rw [World.size_alloc, hW0] at this
    exact this
  have g1 : W0.heap[w.heap.size]? = some (.cells #[.int .i64 0, .int .i64 0, .string ⟨#[]⟩, .int .i64 0] 33 (0, 0)) := by
    rw [← hW0, ((Below.refl _ _).alloc (Nat.le_refl _) _).block _ (by simp)]
    exact heap_new1 _ _
  have hz0 : W0.heap.size = w.heap.size + 2 := by rw [← hW0]; simp
  have d2 : W0.cell? ⟨w.heap.size + 1, 2, none⟩ = some (.string y) := by rw [Lib.cell_of_heap g0]; rfl
  have HW : Hid (Below w.heap.size w W0) := Lib.hid (by rw [← hW0]; exact ((Below.refl _ _).alloc (Nat.le_refl _) _).alloc (by simp) _)
  have HG0 := Lib.hid g0
  have HG1 := Lib.hid g1
  have HZ0 := Lib.hid hz0
  rw [hW0]
  clear hW0 g0 g1 hz0
  have HY := Lib.hid hy
  have hkm := kindM_name (by omega) h2 hl hu
  rw [hy] at hkm
  have hat : a < s.size := by omega
  cases hkw : isKw y.data.toList
  · rw [hkw, if_neg (by simp)] at hkm
    have HKW := Lib.hid hkw
    clear hkw
    go_region_held3 (fun w' => w'.cell? ⟨w.heap.size + 1, 2, none⟩ = some (.string y) ∧ Below W0.heap.size W0 w') ((first | exact ⟨d2, below_drew1 (Below.refl _ _)⟩ | exact ⟨K4.out.1, K4.out.2⟩)) ((first | (go_at_call 13; refine (rwords_n' _).mono ?_; rintro e w4 ⟨A4, c4, rfl, hA4, hb4⟩; have HA4 := Lib.hid hA4; have HB4 := Lib.hid hb4; have K4 := Lib.hid (after_tab HG0.out (by have := HZ0.out; omega) hb4); clear hA4 hb4) | (go_at_call 48; refine (in_is y _ _ _ HA4.out _ HKW.out).mono ?_; rintro e w5 ⟨rfl, rfl⟩)))
    have r4 := row_tab HG1.out (by have := HZ0.out; omega) HB4.out
    have q4 := row_tab HG0.out (by have := HZ0.out; omega) HB4.out
    have d0 : w4.cell? ⟨w.heap.size + 1, 0, none⟩ = some (.int .i64 2) := by rw [Lib.cell_of_heap q4]; rfl
    have f0 : w4.frozen? ⟨w.heap.size + 1, 0, none⟩ = false := Lib.frozen_of_heap q4 0
    have d2' : w4.cell? ⟨w.heap.size + 1, 2, none⟩ = some (.string y) := by rw [Lib.cell_of_heap q4]; rfl
    have HR4 := Lib.hid r4
    have HQ4 := Lib.hid q4
    have HB5 := Lib.hid (HW.out.trans (((below_drew1 (Below.refl _ W0)).trans HB4.out).mono HW.out.size))
    clear r4 q4
    cases hg : gr s[a].toNat
    · have HGR := Lib.hid hg
      rw [bt_in hat, hg] at hkm
      by_cases ht : y.toList = [116, 114, 117, 101]
      · have ht1 : (y.toList == [116, 114, 117, 101]) = true := by simp [ht]
        have HK : Hid (((3 : Nat) : Int) = (kindM y : Nat)) := Lib.hid (by rw [hkm, if_pos (.inl ht)]; rfl)
        clear hg hkm ht hl hu
        go_wp2_with (first | (refine wpList_load_row rfl 33 (.tmp 7) rfl (w.heap.size + 1) rfl 33 #[.int .i64 3, .int .i64 a, .string y, .int .i64 0] (0, 0) _ (row_set HQ4.out (.int .i64 3)) Tryd.underlying33 rfl (tokI _ _ _ _) ?_) | (refine wpList_store_row rfl 33 _ _ rfl w.heap.size #[.int .i64 3, .int .i64 a, .string y, .int .i64 0] rfl rfl 33 _ (row_set_other (g' := w.heap.size + 1) HR4.out (by omega) _) (tokI _ _ _ _) rfl (one4 _ _ _ _) ?_) | ((with_reducible refine (rgreat_is _ (u8_lt _) _ HGR.out _).mono ?_); rintro e w' ⟨rfl, rfl⟩))
        exact bodyPost_ret (v := .agg #[.int .i64 3, .int .i64 a, .string y, .int .i64 0]) (results_cell_row rfl _ _ w.heap.size 33 _ (0, 0) _ rfl (setRow_row (row_set_other (g' := w.heap.size + 1) HR4.out (by omega) _)) Tryd.underlying33 rfl (tokI _ _ _ _)) rfl ⟨by rw [HY.out, ← HK.out]; rfl, below_setRow (HB5.out.setCell (p := ⟨w.heap.size + 1, 0, none⟩) (Nat.le_succ w.heap.size) _) (Nat.le_refl _) _⟩
      · by_cases hf : y.toList = [102, 97, 108, 115, 101]
        · have ht1 : (y.toList == [116, 114, 117, 101]) = false := by simp [ht]
          have hf1 : (y.toList == [102, 97, 108, 115, 101]) = true := by simp [hf]
          have HK : Hid (((3 : Nat) : Int) = (kindM y : Nat)) := Lib.hid (by rw [hkm, if_pos (.inr (.inl hf))]; rfl)
          clear hg hkm ht hf hl hu
          go_wp2_with (first | (refine wpList_load_row rfl 33 (.tmp 7) rfl (w.heap.size + 1) rfl 33 #[.int .i64 3, .int .i64 a, .string y, .int .i64 0] (0, 0) _ (row_set HQ4.out (.int .i64 3)) Tryd.underlying33 rfl (tokI _ _ _ _) ?_) | (refine wpList_store_row rfl 33 _ _ rfl w.heap.size #[.int .i64 3, .int .i64 a, .string y, .int .i64 0] rfl rfl 33 _ (row_set_other (g' := w.heap.size + 1) HR4.out (by omega) _) (tokI _ _ _ _) rfl (one4 _ _ _ _) ?_) | ((with_reducible refine (rgreat_is _ (u8_lt _) _ HGR.out _).mono ?_); rintro e w' ⟨rfl, rfl⟩))
          exact bodyPost_ret (v := .agg #[.int .i64 3, .int .i64 a, .string y, .int .i64 0]) (results_cell_row rfl _ _ w.heap.size 33 _ (0, 0) _ rfl (setRow_row (row_set_other (g' := w.heap.size + 1) HR4.out (by omega) _)) Tryd.underlying33 rfl (tokI _ _ _ _)) rfl ⟨by rw [HY.out, ← HK.out]; rfl, below_setRow (HB5.out.setCell (p := ⟨w.heap.size + 1, 0, none⟩) (Nat.le_succ w.heap.size) _) (Nat.le_refl _) _⟩
        · have ht1 : (y.toList == [116, 114, 117, 101]) = false := by simp [ht]
          have hf1 : (y.toList == [102, 97, 108, 115, 101]) = false := by simp [hf]
          have HK : Hid (((2 : Nat) : Int) = (kindM y : Nat)) := Lib.hid (by rw [hkm, if_neg (by simp [ht, hf])]; rfl)
          clear hg hkm ht hf hl hu
          go_wp2_with (first | (refine wpList_load_row rfl 33 (.tmp 7) rfl (w.heap.size + 1) rfl 33 #[.int .i64 2, .int .i64 a, .string y, .int .i64 0] (0, 0) _ HQ4.out Tryd.underlying33 rfl (tokI _ _ _ _) ?_) | (refine wpList_store_row rfl 33 _ _ rfl w.heap.size #[.int .i64 2, .int .i64 a, .string y, .int .i64 0] rfl rfl 33 _ HR4.out (tokI _ _ _ _) rfl (one4 _ _ _ _) ?_) | ((with_reducible refine (rgreat_is _ (u8_lt _) _ HGR.out _).mono ?_); rintro e w' ⟨rfl, rfl⟩))
          exact bodyPost_ret (v := .agg #[.int .i64 2, .int .i64 a, .string y, .int .i64 0]) (results_cell_row rfl _ _ w.heap.size 33 _ (0, 0) _ rfl (setRow_row HR4.out) Tryd.underlying33 rfl (tokI _ _ _ _)) rfl ⟨by rw [HY.out, ← HK.out]; rfl, below_setRow HB5.out (Nat.le_refl _) _⟩
    · have HGR := Lib.hid hg
      rw [bt_in hat, hg] at hkm
      have HK : Hid (((3 : Nat) : Int) = (kindM y : Nat)) := Lib.hid (by rw [hkm, if_pos (.inr (.inr rfl))]; rfl)
      clear hg hkm hl hu
      go_wp2_with (first | (refine wpList_load_row rfl 33 (.tmp 7) rfl (w.heap.size + 1) rfl 33 #[.int .i64 3, .int .i64 a, .string y, .int .i64 0] (0, 0) _ (row_set HQ4.out (.int .i64 3)) Tryd.underlying33 rfl (tokI _ _ _ _) ?_) | (refine wpList_store_row rfl 33 _ _ rfl w.heap.size #[.int .i64 3, .int .i64 a, .string y, .int .i64 0] rfl rfl 33 _ (row_set_other (g' := w.heap.size + 1) HR4.out (by omega) _) (tokI _ _ _ _) rfl (one4 _ _ _ _) ?_) | ((with_reducible refine (rgreat_is _ (u8_lt _) _ HGR.out _).mono ?_); rintro e w' ⟨rfl, rfl⟩))
      exact bodyPost_ret (v := .agg #[.int .i64 3, .int .i64 a, .string y, .int .i64 0]) (results_cell_row rfl _ _ w.heap.size 33 _ (0, 0) _ rfl (setRow_row (row_set_other (g' := w.heap.size + 1) HR4.out (by omega) _)) Tryd.underlying33 rfl (tokI _ _ _ _)) rfl ⟨by rw [HY.out, ← HK.out]; rfl, below_setRow (HB5.out.setCell (p := ⟨w.heap.size + 1, 0, none⟩) (Nat.le_succ w.heap.size) _) (Nat.le_refl _) _⟩
  · rw [hkw, if_pos rfl] at hkm
    have HK : Hid (((5 : Nat) : Int) = (kindM y : Nat)) := Lib.hid (by rw [hkm]; rfl)
    have HKW := Lib.hid hkw
    clear hkw hkm hl hu
    go_region_held3 (fun w' => w'.cell? ⟨w.heap.size + 1, 2, none⟩ = some (.string y) ∧ Below W0.heap.size W0 w') ((first | exact ⟨d2, below_drew1 (Below.refl _ _)⟩ | exact ⟨K4.out.1, K4.out.2⟩)) ((first | (go_at_call 13; refine (rwords_n' _).mono ?_; rintro e w4 ⟨A4, c4, rfl, hA4, hb4⟩; have HA4 := Lib.hid hA4; have HB4 := Lib.hid hb4; have K4 := Lib.hid (after_tab HG0.out (by have := HZ0.out; omega) hb4); clear hA4 hb4) | (go_at_call 48; refine (in_is y _ _ _ HA4.out _ HKW.out).mono ?_; rintro e w5 ⟨rfl, rfl⟩)))
    have r4 := row_tab HG1.out (by have := HZ0.out; omega) HB4.out
    have q4 := row_tab HG0.out (by have := HZ0.out; omega) HB4.out
    have d0 : w4.cell? ⟨w.heap.size + 1, 0, none⟩ = some (.int .i64 2) := by rw [Lib.cell_of_heap q4]; rfl
    have f0 : w4.frozen? ⟨w.heap.size + 1, 0, none⟩ = false := Lib.frozen_of_heap q4 0
    have d2' : w4.cell? ⟨w.heap.size + 1, 2, none⟩ = some (.string y) := by rw [Lib.cell_of_heap q4]; rfl
    have HR4 := Lib.hid r4
    have HQ4 := Lib.hid q4
    have HB5 := Lib.hid (HW.out.trans (((below_drew1 (Below.refl _ W0)).trans HB4.out).mono HW.out.size))
    clear r4 q4
    go_wp2_with (first | (refine wpList_load_row rfl 33 (.tmp 7) rfl (w.heap.size + 1) rfl 33 #[.int .i64 5, .int .i64 a, .string y, .int .i64 0] (0, 0) _ (row_set HQ4.out (.int .i64 5)) Tryd.underlying33 rfl (tokI _ _ _ _) ?_) | (refine wpList_store_row rfl 33 _ _ rfl w.heap.size #[.int .i64 5, .int .i64 a, .string y, .int .i64 0] rfl rfl 33 _ (row_set_other (g' := w.heap.size + 1) HR4.out (by omega) _) (tokI _ _ _ _) rfl (one4 _ _ _ _) ?_))
    exact bodyPost_ret (v := .agg #[.int .i64 5, .int .i64 a, .string y, .int .i64 0]) (results_cell_row rfl _ _ w.heap.size 33 _ (0, 0) _ rfl (setRow_row (row_set_other (g' := w.heap.size + 1) HR4.out (by omega) _)) Tryd.underlying33 rfl (tokI _ _ _ _)) rfl ⟨by rw [HY.out, ← HK.out]; rfl, below_setRow (HB5.out.setCell (p := ⟨w.heap.size + 1, 0, none⟩) (Nat.le_succ w.heap.size) _) (Nat.le_refl _) _⟩
end Go.Proofs.YtkogfdbmgdajdaaDoor
