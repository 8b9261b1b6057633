/-
  CONTRACTS OF THE REFERENCE OF pos: At, Of; Show of both.
-/
import Derived.Test.YtnpmipmdffbpdaaDoorPos
import Derived.Test.YtnpmipmdffbpdaaDoorStable
namespace Go.Proofs.YtnpmipmdffbpdaaDoor
open Go.ChangeShapes Go.WideShapes Go.ChangeAt Go.RowKit Go.Shelf
set_option linter.unusedVariables false

/-- A spot of two cells in a block of the call's own. -/
def SpotBox (W : World) (B : Nat) (s : ByteArray) (k : Nat) : Prop := W.cell? ⟨B, 0, none⟩ = some (.int .i64 (ln (nlS s) k : Nat)) ∧ W.cell? ⟨B, 1, none⟩ = some (.int .i64 (cl (nlS s) k : Nat)) ∧ W.frozen? ⟨B, 0, none⟩ = false ∧ W.frozen? ⟨B, 1, none⟩ = false

set_option maxHeartbeats 2000000 in
theorem rat_any (s : ByteArray) (hs : s.size ≤ 4611686018427387904) (a : Int) (ha : -9223372036854775808 ≤ a) (hb : a ≤ 9223372036854775807) (w : World) :
    Calls Tryd.prog 8 #[.string s, .int .i64 a] w fun e W' => ∃ v, e = .returned v ∧ AtR s a v ∧ Below w.heap.size w W' := by
  by_cases hr : 0 ≤ a ∧ a ≤ s.size
  · obtain ⟨h0, h1⟩ := hr
    obtain ⟨n, rfl⟩ : ∃ n : Nat, a = n := ⟨a.toNat, by omega⟩
    have hn : n ≤ s.size := by omega
    clear ha hb h0
    have d0 : decide ((n : Int) < 0) = false := by simp
    have d1 : decide (s.size < n) = false := by simp; omega
    go_enter Tryd.func8, Tryd.ntmps8
    go_wp2
    go_loopw [7] (fun i wr => ∃ k : Nat, k ≤ n ∧ i = .int .i64 k ∧ SpotBox wr (w.heap.size + 1) s k ∧ (wr.cell? ⟨w.heap.size, 0, none⟩ = some (.int .i64 0) ∧ wr.cell? ⟨w.heap.size, 1, none⟩ = some (.int .i64 0) ∧ wr.frozen? ⟨w.heap.size, 0, none⟩ = false ∧ wr.frozen? ⟨w.heap.size, 1, none⟩ = false) ∧ Below w.heap.size w wr) (fun i _ => n - (intOf i).toNat)
    case atStart =>
      exact ⟨0, Nat.zero_le _, rfl, ⟨by simp [go_sem, ln], by simp [go_sem, cl, fs], by simp [go_sem], by simp [go_sem]⟩, ⟨by simp [go_sem], by simp [go_sem], by simp [go_sem], by simp [go_sem]⟩, ((Below.refl _ _).alloc (Nat.le_refl _) _).alloc (by simp) _⟩
    case round =>
      obtain ⟨k, hk, rfl, ⟨c1, c2, f1, f2⟩, ⟨c3, c4, f3, f4⟩, hB⟩ := hrel
      have b1 := ln_le (nl := nlS s) k
      have b2 := cl_le (nl := nlS s) k
      have HB := Lib.hid hB
      clear hB
      by_cases hlt : k < n
      · by_cases h10 : s[k].toNat = 10
        · have hnl := Lib.hid (nlS_yes (by omega) h10)
          go_wp2
          go_roundw
          case rel => exact ⟨k + 1, by omega, by go_num, ⟨by rw [ln_yes hnl.out]; simp [go_sem, c1], by rw [cl_yes hnl.out]; simp [go_sem, c2], by simp [go_sem, f1], by simp [go_sem, f2]⟩,
            ⟨by simp [go_sem, c3], by simp [go_sem, c4], by simp [go_sem, f3], by simp [go_sem, f4]⟩, ((HB.out.setCell (p := ⟨w.heap.size + 1, 1, none⟩) (by simp) _).setCell (p := ⟨w.heap.size + 1, 0, none⟩) (by simp) _).setCell (p := ⟨w.heap.size + 1, 1, none⟩) (by simp) _⟩
          case measure => simp [intOf]; omega
        · have hnl := Lib.hid (nlS_no (by omega) h10)
          have t10 : ((s[k].toNat : Int) == 10) = false := by simp; omega
          go_wp2
          go_roundw
          case rel => exact ⟨k + 1, by omega, by go_num, ⟨by rw [ln_no hnl.out]; simp [go_sem, c1], by rw [cl_no hnl.out]; simp [go_sem, c2], by simp [go_sem, f1], by simp [go_sem, f2]⟩,
            ⟨by simp [go_sem, c3], by simp [go_sem, c4], by simp [go_sem, f3], by simp [go_sem, f4]⟩, HB.out.setCell (p := ⟨w.heap.size + 1, 1, none⟩) (by simp) _⟩
          case measure => simp [intOf]; omega
      · obtain rfl : k = n := by omega
        go_wp2
        refine bodyPost_ret (v := spotV s k) (by simp [results, Tryd.results8, go_sem, c3, c4, spotV]) rfl ⟨_, rfl, .inl ⟨by omega, by omega, by simp⟩, ?_⟩
        exact (HB.out.setCell (p := ⟨w.heap.size, 0, none⟩) (Nat.le_refl _) _).setCell (p := ⟨w.heap.size, 1, none⟩) (Nat.le_refl _) _
  · have HR := Lib.hid hr
    by_cases h0 : a < 0
    · clear hr
      go_enter Tryd.func8, Tryd.ntmps8
      go_wp2
      refine bodyPost_ret (v := noSpot) (by simp [results, Tryd.results8, go_sem, noSpot]) rfl ⟨_, rfl, .inr ⟨HR.out, rfl⟩, ?_⟩
      exact (Below.refl _ _).alloc (Nat.le_refl _) _
    · have h1 : (s.size : Int) < a := by omega
      clear hr
      go_enter Tryd.func8, Tryd.ntmps8
      go_wp2
      refine bodyPost_ret (v := noSpot) (by simp [results, Tryd.results8, go_sem, noSpot]) rfl ⟨_, rfl, .inr ⟨HR.out, rfl⟩, ?_⟩
      exact (Below.refl _ _).alloc (Nat.le_refl _) _

set_option maxHeartbeats 2000000 in
theorem rof_any (s : ByteArray) (hs : s.size ≤ 4611686018427387904) (u v : Int) (hu : R64 u) (hv : R64 v) (w : World) :
    Calls Tryd.prog 10 #[.string s, .agg #[.int .i64 u, .int .i64 v]] w fun e W' => ∃ r, e = .returned r ∧ OfR s u v r ∧ Below w.heap.size w W' := by
  clear hu hv
  go_enter Tryd.func10, Tryd.ntmps10
  go_wp2
  go_loopw [7] (fun i wr => ∃ k : Nat, k ≤ s.size + 1 ∧ i = .int .i64 k ∧ (k ≤ s.size → SpotBox wr (w.heap.size + 1) s k) ∧ (∀ j, j < k → ¬ SpotAt (nlS s) s.size u v j) ∧ (wr.cell? ⟨w.heap.size, 0, none⟩ = some (.int .i64 u) ∧ wr.cell? ⟨w.heap.size, 1, none⟩ = some (.int .i64 v)) ∧ Below w.heap.size w wr) (fun i _ => s.size + 1 - (intOf i).toNat)
  case atStart =>
    exact ⟨0, Nat.zero_le _, rfl, fun _ => ⟨by simp [go_sem, ln], by simp [go_sem, cl, fs], by simp [go_sem], by simp [go_sem]⟩, fun j h => by omega, ⟨by simp [go_sem], by simp [go_sem]⟩, ((Below.refl _ _).alloc (Nat.le_refl _) _).alloc (by simp) _⟩
  case round =>
    obtain ⟨k, hk, rfl, hc, hno, ⟨c3, c4⟩, hB⟩ := hrel
    have HNO := Lib.hid hno
    have HB := Lib.hid hB
    clear hB hno
    by_cases hlt : k ≤ s.size
    · obtain ⟨c1, c2, f1, f2⟩ := hc hlt
      clear hc
      have b1 := ln_le (nl := nlS s) k
      have b2 := cl_le (nl := nlS s) k
      have found : (ln (nlS s) k : Nat) = u → (cl (nlS s) k : Nat) = v → SpotAt (nlS s) s.size u v k := fun q1 q2 => ⟨hlt, q1.symm, q2.symm⟩
      have HF := Lib.hid found
      have hnot : ((ln (nlS s) k : Nat) = u → (cl (nlS s) k : Nat) = v → False) → ∀ j, j < k + 1 → ¬ SpotAt (nlS s) s.size u v j := fun h j hj hs => by
        by_cases e : j = k
        · subst e; exact h hs.2.1.symm hs.2.2.symm
        · exact HNO.out j (by omega) hs
      have HT := Lib.hid hnot
      clear found hnot
      by_cases q : ((ln (nlS s) k : Nat) : Int) = u ∧ ((cl (nlS s) k : Nat) : Int) = v
      · obtain ⟨q1, q2⟩ := q
        have t1 : (((ln (nlS s) k : Nat) : Int) == u) = true := by simpa using q1
        have t2 : (((cl (nlS s) k : Nat) : Int) == v) = true := by simpa using q2
        have HQ := Lib.hid (HF.out q1 q2)
        clear q1 q2
        go_wp2
        refine bodyPost_ret (v := .tuple #[.int .i64 (k : Nat), .bool true]) (by simp [results, Tryd.results10, go_sem]) rfl ⟨_, rfl, .inl ⟨k, HQ.out, rfl⟩, HB.out⟩
      · have HQ := Lib.hid (HT.out (fun h1 h2 => q ⟨h1, h2⟩))
        by_cases q1 : ((ln (nlS s) k : Nat) : Int) = u
        · have t1 : (((ln (nlS s) k : Nat) : Int) == u) = true := by simpa using q1
          have t2 : (((cl (nlS s) k : Nat) : Int) == v) = false := by
            have : ¬ ((cl (nlS s) k : Nat) : Int) = v := fun h => q ⟨q1, h⟩
            simpa using this
          clear q q1
          by_cases hl : k < s.size
          · by_cases h10 : s[k].toNat = 10
            · have hnl := Lib.hid (nlS_yes hl h10)
              go_wp2
              go_roundw
              case rel => exact ⟨k + 1, by omega, by go_num, fun _ => ⟨by rw [ln_yes hnl.out]; simp [go_sem, c1], by rw [cl_yes hnl.out]; simp [go_sem, c2], by simp [go_sem, f1], by simp [go_sem, f2]⟩, HQ.out,
                ⟨by simp [go_sem, c3], by simp [go_sem, c4]⟩, ((HB.out.setCell (p := ⟨w.heap.size + 1, 1, none⟩) (by simp) _).setCell (p := ⟨w.heap.size + 1, 0, none⟩) (by simp) _).setCell (p := ⟨w.heap.size + 1, 1, none⟩) (by simp) _⟩
              case measure => simp [intOf]; omega
            · have hnl := Lib.hid (nlS_no hl h10)
              have t10 : ((s[k].toNat : Int) == 10) = false := by simp; omega
              go_wp2
              go_roundw
              case rel => exact ⟨k + 1, by omega, by go_num, fun _ => ⟨by rw [ln_no hnl.out]; simp [go_sem, c1], by rw [cl_no hnl.out]; simp [go_sem, c2], by simp [go_sem, f1], by simp [go_sem, f2]⟩, HQ.out,
                ⟨by simp [go_sem, c3], by simp [go_sem, c4]⟩, HB.out.setCell (p := ⟨w.heap.size + 1, 1, none⟩) (by simp) _⟩
              case measure => simp [intOf]; omega
          · obtain rfl : k = s.size := by omega
            go_wp2
            go_roundw
            case rel => exact ⟨s.size + 1, by omega, by go_num, fun h => absurd h (by omega), HQ.out, ⟨by simp [go_sem, c3], by simp [go_sem, c4]⟩, HB.out.setCell (p := ⟨w.heap.size + 1, 1, none⟩) (by simp) _⟩
            case measure => simp [intOf]
        · have t1 : (((ln (nlS s) k : Nat) : Int) == u) = false := by simpa using q1
          clear q q1
          by_cases hl : k < s.size
          · by_cases h10 : s[k].toNat = 10
            · have hnl := Lib.hid (nlS_yes hl h10)
              go_wp2
              go_roundw
              case rel => exact ⟨k + 1, by omega, by go_num, fun _ => ⟨by rw [ln_yes hnl.out]; simp [go_sem, c1], by rw [cl_yes hnl.out]; simp [go_sem, c2], by simp [go_sem, f1], by simp [go_sem, f2]⟩, HQ.out,
                ⟨by simp [go_sem, c3], by simp [go_sem, c4]⟩, ((HB.out.setCell (p := ⟨w.heap.size + 1, 1, none⟩) (by simp) _).setCell (p := ⟨w.heap.size + 1, 0, none⟩) (by simp) _).setCell (p := ⟨w.heap.size + 1, 1, none⟩) (by simp) _⟩
              case measure => simp [intOf]; omega
            · have hnl := Lib.hid (nlS_no hl h10)
              have t10 : ((s[k].toNat : Int) == 10) = false := by simp; omega
              go_wp2
              go_roundw
              case rel => exact ⟨k + 1, by omega, by go_num, fun _ => ⟨by rw [ln_no hnl.out]; simp [go_sem, c1], by rw [cl_no hnl.out]; simp [go_sem, c2], by simp [go_sem, f1], by simp [go_sem, f2]⟩, HQ.out,
                ⟨by simp [go_sem, c3], by simp [go_sem, c4]⟩, HB.out.setCell (p := ⟨w.heap.size + 1, 1, none⟩) (by simp) _⟩
              case measure => simp [intOf]; omega
          · obtain rfl : k = s.size := by omega
            go_wp2
            go_roundw
            case rel => exact ⟨s.size + 1, by omega, by go_num, fun h => absurd h (by omega), HQ.out, ⟨by simp [go_sem, c3], by simp [go_sem, c4]⟩, HB.out.setCell (p := ⟨w.heap.size + 1, 1, none⟩) (by simp) _⟩
            case measure => simp [intOf]
    · obtain rfl : k = s.size + 1 := by omega
      clear hc
      go_wp2
      refine bodyPost_ret (v := .tuple #[.int .i64 0, .bool false]) (by simp [results, Tryd.results10, go_sem]) rfl ⟨_, rfl, .inr ⟨fun j h => HNO.out j (by have := h.1; omega) h, rfl⟩, HB.out⟩

/-! ### Show -/
def shwSpot (u v : Int) : ByteArray := shw u ++ ⟨#[58]⟩ ++ shw v
theorem shw_40 (n : Int) (h : R64 n) : (shw n).size ≤ 40 := by
  rw [shw_size]
  have := Lib.itoa_length_le n h.1 h.2
  omega
theorem drew1_below {B : Nat} {a w : World} (h : Below B a w) : Below B a { w with drawn := w.drawn + 1 } := below_drewN h 1
theorem show_S {W0 wS : World} (x : Int) (h : R64 x) (ht : Pow10 W0) (hS : Below W0.heap.size W0 wS) :
    Calls Tryd.prog 14 #[.int .i64 x] wS fun e w' => e = .returned (.string (shw x)) ∧ Below W0.heap.size W0 w' :=
  (show_shw x wS h.1 h.2 (ht.on hS)).mono fun _ _ ⟨he, hb⟩ => ⟨he, hS.trans (hb.mono hS.size)⟩
theorem rshow_S {W0 wS : World} (x : Int) (h : R64 x) (hS : Below W0.heap.size W0 wS) :
    Calls Tryd.prog 15 #[.int .i64 x] wS fun e w' => e = .returned (.string (shw x)) ∧ Below W0.heap.size W0 w' :=
  (rshow_shw x wS h.1 h.2).mono fun _ _ ⟨he, hb⟩ => ⟨he, hS.trans (hb.mono hS.size)⟩

set_option maxHeartbeats 2000000 in
theorem pshow_any (u v : Int) (hu : R64 u) (hv : R64 v) (w : World) (ht : Pow10 w) :
    Calls Tryd.prog 11 #[.agg #[.int .i64 u, .int .i64 v]] w fun e W' => e = .returned (.string (shwSpot u v)) ∧ Below w.heap.size w W' := by
  have HT := Lib.hid ht
  clear ht
  have HU := Lib.hid hu
  have HV := Lib.hid hv
  clear hu hv
  have q1 := shw_40 u HU.out
  have q2 := shw_40 v HV.out
  have r1 : ¬ 9223372036854775807 < (shw u).size + 1 := by omega
  have r2 : ¬ 9223372036854775807 < (shw u).size + 1 + (shw v).size := by omega
  go_enter Tryd.func11, Tryd.ntmps11
  go_wp2_with fail
  obtain ⟨W0, hW0⟩ : ∃ W0, w.alloc (.cells #[.int .i64 u, .int .i64 v] 23) = W0 := ⟨_, rfl⟩
  have g0 : W0.heap[w.heap.size]? = some (.cells #[.int .i64 u, .int .i64 v] 23 (0, 0)) := by rw [← hW0]; exact heap_new _ _
  have hB0 : Below w.heap.size w W0 := by rw [← hW0]; exact (Below.refl _ _).alloc (Nat.le_refl _) _
  rw [hW0]
  have HP := Lib.hid (HT.out.on hB0)
  have HB := Lib.hid hB0
  clear hW0 hB0
  have HC := Lib.hid (fun (W : World) (hB : Below W0.heap.size W0 W) => show W.cell? ⟨w.heap.size, 0, none⟩ = some (.int .i64 u) ∧ W.cell? ⟨w.heap.size, 1, none⟩ = some (.int .i64 v) from
    have k := (hB.block _ (Array.getElem?_eq_some_iff.1 g0).1).trans g0
    ⟨block_cell k rfl, block_cell k rfl⟩)
  clear g0
  refine wp_region_S (fun w' => Below W0.heap.size W0 w') (by kernel_rfl) (drew1_below (Below.refl _ _)) ?_
  refine wpS_take (v := ?_) (a' := ?_) 0 rfl (by kernel_rfl) (by kernel_rfl) (by kernel_rfl) ?_ ?_ ?_
  rotate_left 2
  · refine stepS_yield (by kernel_rfl) ?_; intro wS hS; obtain ⟨x0, x1⟩ := HC.out _ hS; go_simp; with_reducible rfl
  · go_simp; with_reducible rfl
  refine wpS_take (v := ?_) (a' := ?_) 1 rfl (by kernel_rfl) (by kernel_rfl) (by kernel_rfl) ?_ ?_ ?_
  rotate_left 2
  · refine stepS_yield (by kernel_rfl) ?_; intro wS hS; obtain ⟨x0, x1⟩ := HC.out _ hS; go_simp; with_reducible rfl
  · go_simp; with_reducible rfl
  refine wpS_take (v := ?_) (a' := ?_) 2 rfl (by kernel_rfl) (by kernel_rfl) (by kernel_rfl) ?_ ?_ ?_
  rotate_left 2
  · apply stepS_call (by kernel_rfl)
    · intro wS hS; go_simp; with_reducible exact ⟨rfl, rfl⟩
    intro wS hS
    first
      | (with_reducible exact show_S u HU.out HP.out hS)
      | (with_reducible exact show_S v HV.out HP.out hS)
  · go_simp; with_reducible rfl
  refine wpS_take (v := ?_) (a' := ?_) 3 rfl (by kernel_rfl) (by kernel_rfl) (by kernel_rfl) ?_ ?_ ?_
  rotate_left 2
  · refine stepS_yield (by kernel_rfl) ?_; intro wS hS; obtain ⟨x0, x1⟩ := HC.out _ hS; go_simp; with_reducible rfl
  · go_simp; with_reducible rfl
  refine wpS_take (v := ?_) (a' := ?_) 4 rfl (by kernel_rfl) (by kernel_rfl) (by kernel_rfl) ?_ ?_ ?_
  rotate_left 2
  · refine stepS_yield (by kernel_rfl) ?_; intro wS hS; obtain ⟨x0, x1⟩ := HC.out _ hS; go_simp; with_reducible rfl
  · go_simp; with_reducible rfl
  refine wpS_take (v := ?_) (a' := ?_) 5 rfl (by kernel_rfl) (by kernel_rfl) (by kernel_rfl) ?_ ?_ ?_
  rotate_left 2
  · refine stepS_yield (by kernel_rfl) ?_; intro wS hS; obtain ⟨x0, x1⟩ := HC.out _ hS; go_simp; with_reducible rfl
  · go_simp; with_reducible rfl
  refine wpS_take (v := ?_) (a' := ?_) 6 rfl (by kernel_rfl) (by kernel_rfl) (by kernel_rfl) ?_ ?_ ?_
  rotate_left 2
  · apply stepS_call (by kernel_rfl)
    · intro wS hS; go_simp; with_reducible exact ⟨rfl, rfl⟩
    intro wS hS
    first
      | (with_reducible exact show_S u HU.out HP.out hS)
      | (with_reducible exact show_S v HV.out HP.out hS)
  · go_simp; with_reducible rfl
  refine wpS_take (v := ?_) (a' := ?_) 7 rfl (by kernel_rfl) (by kernel_rfl) (by kernel_rfl) ?_ ?_ ?_
  rotate_left 2
  · refine stepS_yield (by kernel_rfl) ?_; intro wS hS; obtain ⟨x0, x1⟩ := HC.out _ hS; go_simp; with_reducible rfl
  · go_simp; with_reducible rfl
  refine wpS_take (v := ?_) (a' := ?_) 8 rfl (by kernel_rfl) (by kernel_rfl) (by kernel_rfl) ?_ ?_ ?_
  rotate_left 2
  · refine stepS_yield (by kernel_rfl) ?_; intro wS hS; obtain ⟨x0, x1⟩ := HC.out _ hS; go_simp; with_reducible rfl
  · go_simp; with_reducible rfl
  refine wpS_end (by kernel_rfl) ?_
  intro W hS
  go_wp2_with fail
  go_ret
  exact ⟨rfl, HB.out.trans (hS.mono HB.out.size)⟩

set_option maxHeartbeats 2000000 in
theorem rpshow_any (u v : Int) (hu : R64 u) (hv : R64 v) (w : World) :
    Calls Tryd.prog 12 #[.agg #[.int .i64 u, .int .i64 v]] w fun e W' => e = .returned (.string (shwSpot u v)) ∧ Below w.heap.size w W' := by
  have HU := Lib.hid hu
  have HV := Lib.hid hv
  clear hu hv
  have q1 := shw_40 u HU.out
  have q2 := shw_40 v HV.out
  have r1 : ¬ 9223372036854775807 < (shw u).size + 1 := by omega
  have r2 : ¬ 9223372036854775807 < (shw u).size + 1 + (shw v).size := by omega
  go_enter Tryd.func12, Tryd.ntmps12
  go_wp2_with fail
  obtain ⟨W0, hW0⟩ : ∃ W0, w.alloc (.cells #[.int .i64 u, .int .i64 v] 23) = W0 := ⟨_, rfl⟩
  have g0 : W0.heap[w.heap.size]? = some (.cells #[.int .i64 u, .int .i64 v] 23 (0, 0)) := by rw [← hW0]; exact heap_new _ _
  have hB0 : Below w.heap.size w W0 := by rw [← hW0]; exact (Below.refl _ _).alloc (Nat.le_refl _) _
  rw [hW0]
  have HB := Lib.hid hB0
  clear hW0 hB0
  have HC := Lib.hid (fun (W : World) (hB : Below W0.heap.size W0 W) => show W.cell? ⟨w.heap.size, 0, none⟩ = some (.int .i64 u) ∧ W.cell? ⟨w.heap.size, 1, none⟩ = some (.int .i64 v) from
    have k := (hB.block _ (Array.getElem?_eq_some_iff.1 g0).1).trans g0
    ⟨block_cell k rfl, block_cell k rfl⟩)
  clear g0
  refine wp_region_S (fun w' => Below W0.heap.size W0 w') (by kernel_rfl) (drew1_below (Below.refl _ _)) ?_
  refine wpS_take (v := ?_) (a' := ?_) 0 rfl (by kernel_rfl) (by kernel_rfl) (by kernel_rfl) ?_ ?_ ?_
  rotate_left 2
  · refine stepS_yield (by kernel_rfl) ?_; intro wS hS; obtain ⟨x0, x1⟩ := HC.out _ hS; go_simp; with_reducible rfl
  · go_simp; with_reducible rfl
  refine wpS_take (v := ?_) (a' := ?_) 1 rfl (by kernel_rfl) (by kernel_rfl) (by kernel_rfl) ?_ ?_ ?_
  rotate_left 2
  · refine stepS_yield (by kernel_rfl) ?_; intro wS hS; obtain ⟨x0, x1⟩ := HC.out _ hS; go_simp; with_reducible rfl
  · go_simp; with_reducible rfl
  refine wpS_take (v := ?_) (a' := ?_) 2 rfl (by kernel_rfl) (by kernel_rfl) (by kernel_rfl) ?_ ?_ ?_
  rotate_left 2
  · apply stepS_call (by kernel_rfl)
    · intro wS hS; go_simp; with_reducible exact ⟨rfl, rfl⟩
    intro wS hS
    first
      | (with_reducible exact rshow_S u HU.out hS)
      | (with_reducible exact rshow_S v HV.out hS)
  · go_simp; with_reducible rfl
  refine wpS_take (v := ?_) (a' := ?_) 3 rfl (by kernel_rfl) (by kernel_rfl) (by kernel_rfl) ?_ ?_ ?_
  rotate_left 2
  · refine stepS_yield (by kernel_rfl) ?_; intro wS hS; obtain ⟨x0, x1⟩ := HC.out _ hS; go_simp; with_reducible rfl
  · go_simp; with_reducible rfl
  refine wpS_take (v := ?_) (a' := ?_) 4 rfl (by kernel_rfl) (by kernel_rfl) (by kernel_rfl) ?_ ?_ ?_
  rotate_left 2
  · refine stepS_yield (by kernel_rfl) ?_; intro wS hS; obtain ⟨x0, x1⟩ := HC.out _ hS; go_simp; with_reducible rfl
  · go_simp; with_reducible rfl
  refine wpS_take (v := ?_) (a' := ?_) 5 rfl (by kernel_rfl) (by kernel_rfl) (by kernel_rfl) ?_ ?_ ?_
  rotate_left 2
  · refine stepS_yield (by kernel_rfl) ?_; intro wS hS; obtain ⟨x0, x1⟩ := HC.out _ hS; go_simp; with_reducible rfl
  · go_simp; with_reducible rfl
  refine wpS_take (v := ?_) (a' := ?_) 6 rfl (by kernel_rfl) (by kernel_rfl) (by kernel_rfl) ?_ ?_ ?_
  rotate_left 2
  · apply stepS_call (by kernel_rfl)
    · intro wS hS; go_simp; with_reducible exact ⟨rfl, rfl⟩
    intro wS hS
    first
      | (with_reducible exact rshow_S u HU.out hS)
      | (with_reducible exact rshow_S v HV.out hS)
  · go_simp; with_reducible rfl
  refine wpS_take (v := ?_) (a' := ?_) 7 rfl (by kernel_rfl) (by kernel_rfl) (by kernel_rfl) ?_ ?_ ?_
  rotate_left 2
  · refine stepS_yield (by kernel_rfl) ?_; intro wS hS; obtain ⟨x0, x1⟩ := HC.out _ hS; go_simp; with_reducible rfl
  · go_simp; with_reducible rfl
  refine wpS_take (v := ?_) (a' := ?_) 8 rfl (by kernel_rfl) (by kernel_rfl) (by kernel_rfl) ?_ ?_ ?_
  rotate_left 2
  · refine stepS_yield (by kernel_rfl) ?_; intro wS hS; obtain ⟨x0, x1⟩ := HC.out _ hS; go_simp; with_reducible rfl
  · go_simp; with_reducible rfl
  refine wpS_end (by kernel_rfl) ?_
  intro W hS
  go_wp2_with fail
  go_ret
  exact ⟨rfl, HB.out.trans (hS.mono HB.out.size)⟩
end Go.Proofs.YtnpmipmdffbpdaaDoor
