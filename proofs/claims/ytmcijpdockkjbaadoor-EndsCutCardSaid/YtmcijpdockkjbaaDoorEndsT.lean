/-
  THE REFERENCE's Show (layer 2).
-/
import Derived.Test.YtmcijpdockkjbaaDoorEndsS
import Derived.Deep.RegionHeld3
import Derived.Deep.DrawnRows
import Derived.Deep.DeepCutAuto
import Derived.Outline
namespace Go.Proofs.YtmcijpdockkjbaaDoor
open Go.ChangeShapes Go.WideShapes Go.ChangeAt Go.RowKit
set_option linter.unusedVariables false
set_option linter.unusedSimpArgs false
attribute [local go_sem ↓] Go.wp_at_zero Go.wp_at_succ
theorem rshow_no (k n s : Int) (A : Option Addr) (c : Nat) (xs : List Int) (w : World) {B : Nat} (h : IntsAt w B A xs) (hB : B ≤ w.heap.size) (hl : xs.length ≤ maxLen) (r : rightB k n s xs = false) :
    Calls Tryd.prog 14 #[.agg #[.int .i64 k, .int .i64 n, .slice A xs.length c, .int .i64 s]] w fun e w' => e = .returned (.string ⟨#[]⟩) ∧ Below w.heap.size w w' := by
  have hr := Lib.hid (rright_any k n s A c xs _ (h.alloc hB (.cells #[.int .i64 k, .int .i64 n, .slice A xs.length c, .int .i64 s] 25)) (by simp; omega) hl)
  rw [r] at hr
  clear r h
  go_enter Tryd.func14, Tryd.ntmps14
  go_wp2_with fail
  refine hr.out.mono ?_
  rintro e w1 ⟨rfl, hb1⟩
  go_wp2
  go_ret
  exact ⟨rfl, below_then (below_new _ _) hb1⟩
theorem raise_size (S : ByteArray) : ((⟨#[114, 97, 105, 115, 101, 32]⟩ : ByteArray) ++ S).size = 6 + S.size := by rw [ByteArray.size_append]; rfl

/-- What the reference has laid after j rounds. -/
def SInv (H : List UInt8) (xs : List Int) (w1 : World) (v i : Value) (wr : World) : Prop :=
  ∃ (j : Nat) (S : ByteArray), j ≤ xs.length ∧ i = .int .i64 j ∧ v = .string S ∧ S.data.toList = H ++ outL (xs.take j) ∧ Below w1.heap.size w1 wr
theorem out_len {xs : List Int} (h : xs.all in31 = true) : (outL xs).length ≤ 22 * xs.length + 1 := by
  have := nums_len h
  unfold outL; split <;> simp <;> omega
theorem size_of_list {S : ByteArray} {l : List UInt8} (h : S.data.toList = l) : S.size = l.length := by
  rw [← h, Array.length_toList]; rfl
theorem out_first {xs : List Int} (h : 0 < xs.length) (H : List UInt8) : H ++ outL (xs.take 0) ++ ([58] : List UInt8) ++ ([32] : List UInt8) ++ Lib.itoa xs[0] = H ++ outL (xs.take 1) := by
  have : xs.take 1 = [xs[0]] := by cases xs with | nil => simp at h | cons a t => simp
  rw [this]; simp [outL, numsL]
theorem out_next {xs : List Int} {j : Nat} (h : j < xs.length) (h0 : 0 < j) (H : List UInt8) : H ++ outL (xs.take j) ++ ([32] : List UInt8) ++ Lib.itoa xs[j] = H ++ outL (xs.take (j + 1)) := by
  have h1 : ¬ (xs.take j).length = 0 := by rw [List.length_take]; omega
  have h2 : ¬ (xs.take (j + 1)).length = 0 := by rw [List.length_take]; omega
  unfold outL
  rw [if_neg h1, if_neg h2, nums_snoc h]; simp
theorem app_data (S T : ByteArray) : (S ++ T).data.toList = S.data.toList ++ T.data.toList := by rw [ByteArray.data_append, Array.toList_append]
/-- What the reference has laid ahead of its loop. -/
def hS (k n : Int) : ByteArray := if k = 2 then ⟨#[114, 97, 105, 115, 101, 32]⟩ ++ shw n else ⟨(kN k).toArray⟩
theorem hS_data (k n : Int) : (hS k n).data.toList = headL k n := by
  unfold hS headL
  by_cases h : k = 2
  · subst h; rw [if_pos rfl, if_pos rfl, app_data, shw_data]; rfl
  · rw [if_neg h, if_neg h]; simp [kN]
theorem head_small (k n : Int) (n0 : -9223372036854775808 ≤ n) (n1 : n ≤ 9223372036854775807) : (headL k n).length ≤ 27 := by
  have := kN_len k
  have h2 := Lib.itoa_length_le n n0 n1
  unfold headL
  rw [List.length_append]
  unfold kN at this
  split <;> simp only [List.length_cons, List.length_nil] <;> omega
theorem rshow_1 (n s : Int) (A : Option Addr) (c : Nat) (xs : List Int) (w : World) {B : Nat} (h : IntsAt w B A xs) (hB : B ≤ w.heap.size) (hl : xs.length ≤ 300) (r : rightB 1 n s xs = true)
    (n0 : -9223372036854775808 ≤ n) (n1 : n ≤ 9223372036854775807) :
    Calls Tryd.prog 14 #[.agg #[.int .i64 1, .int .i64 n, .slice A xs.length c, .int .i64 s]] w fun e w' => e = .returned (.string ⟨(headL 1 n ++ outL xs).toArray⟩) ∧ Below w.heap.size w w' := by
  have hr := Lib.hid (rright_any 1 n s A c xs _ (h.alloc hB (.cells #[.int .i64 1, .int .i64 n, .slice A xs.length c, .int .i64 s] 25)) (by simp; omega) (by unfold maxLen; omega))
  rw [r] at hr
  have HX := Lib.hid (right_all r)
  have HI := Lib.hid (fun (j : Nat) (hj : j < xs.length) => in31_at (right_all r) hj)
  have H := Lib.hid h
  have HB := Lib.hid hB
  have hz := shw_small n n0 n1
  have hwk : IntKind.i64.wrap 0 = 0 := by decide
  have hz6 : ¬ 9223372036854775807 < 6 + (shw n).size := by omega
  clear r h hB
  go_enter Tryd.func14, Tryd.ntmps14
  go_wp2_with fail
  refine hr.out.mono ?_
  rintro e w1 ⟨rfl, hb1⟩
  have b1 := Lib.hid (below_then (below_new _ _) hb1)
  have z1 : w.heap.size < w1.heap.size := by have := hb1.size; simp at this; omega
  have q0 : w1.cell? ⟨w.heap.size, 0, none⟩ = some (.int .i64 1) := ((bcell hb1).1 _ 0 (by simp)).trans (Go.Joins.cell_alloc_mark_at w _ _ _ _ 0 rfl)
  have q1 : w1.cell? ⟨w.heap.size, 1, none⟩ = some (.int .i64 n) := ((bcell hb1).1 _ 1 (by simp)).trans (Go.Joins.cell_alloc_mark_at w _ _ _ _ 1 rfl)
  have q2 : w1.cell? ⟨w.heap.size, 2, none⟩ = some (.slice A xs.length c) := ((bcell hb1).1 _ 2 (by simp)).trans (Go.Joins.cell_alloc_mark_at w _ _ _ _ 2 rfl)
  clear hr hb1
  obtain ⟨g, hg⟩ : ∃ g, g = w.heap.size := ⟨_, rfl⟩
  rw [← hg] at z1 q0 q1 q2
  rw [← hg]
  have HG := Lib.hid hg
  clear hg
  go_upto_region 3 with fail
  go_cut [3] (fun s3 wx => s3 = .string (hS 1 n) ∧ Below w1.heap.size w1 wx)
  case first =>
    go_region_with ((go_at_call 26; refine (rshow_shw _ _ n0 n1).mono ?_; rintro e w2 ⟨rfl, hb2⟩; have k0 : w2.cell? ⟨g, 0, none⟩ = some _ := (hb2.cell (p := ⟨g, 0, none⟩) (by simpa using z1)).trans q0; have k1 : w2.cell? ⟨g, 1, none⟩ = some _ := (hb2.cell (p := ⟨g, 1, none⟩) (by simpa using z1)).trans q1; have z2 : g < w2.heap.size := Nat.lt_of_lt_of_le z1 (by simpa using hb2.size)))
    all_goals (go_wp2_with fail; go_meet; exact ⟨rfl, (show Below w1.heap.size w1 w2 from ⟨hb2.os, hb2.tape, hb2.output, hb2.size, hb2.block⟩).alloc hb2.size _⟩)
  case rest =>
    obtain ⟨rfl, hbc⟩ := hcut
    obtain ⟨hcc, hfc⟩ := bcell hbc
    go_wp2_with fail
    go_loopw [3, 4] (fun v i wr => SInv (headL 1 n) xs w1 v i wr) (fun _ i _ => xs.length - (intOf i).toNat)
    case atStart => exact ⟨0, _, Nat.zero_le _, rfl, rfl, by rw [hS_data]; simp [outL], hbc⟩
    case round =>
      obtain ⟨j, S, hj, rfl, rfl, hS, hbj⟩ := hrel
      have HS := Lib.hid hS
      have hbS := size_of_list hS
      have hsS : S.size ≤ 7000 := by
        have h1 := head_small 1 n n0 n1
        have h2 := out_len (all_take HX.out j)
        rw [List.length_take] at h2
        rw [hbS, List.length_append]
        omega
      clear hS hbS
      obtain ⟨hcj, hfj⟩ := bcell hbj
      have b2 := Lib.hid hbj
      by_cases hlt : j < xs.length
      · obtain ⟨ad, hA, hb, hcell⟩ := (((H.out.more (HB.out)).below b1.out).below (Go.Joins.below_le hbj (by have := HG.out; omega))).at_ hlt
        have hx := HI.out j hlt
        have hsz := shw_small xs[j] (by omega) (by omega)
        have HO := Lib.hid (fun h0 : 0 < j => out_next hlt h0 (headL 1 n))
        have HF := Lib.hid (fun h0 : 0 < xs.length => out_first h0 (headL 1 n))
        subst hA
        by_cases hj0 : j = 0
        · subst hj0
          have hcell0 : wr.cell? ad = some (.int .i64 xs[0]) := by simpa [Addr.add] using hcell
          clear hcell
          go_wp2_with fail
          refine (rshow_shw _ _ (by omega) (by omega)).mono ?_
          rintro e w3 ⟨rfl, hb3⟩
          have b3 := Lib.hid (below_then b2.out hb3)
          go_wp2
          go_roundw
          case rel => exact ⟨1, _, by omega, by go_num, rfl, by rw [app_data, app_data, app_data, HS.out, shw_data]; exact HF.out hlt, b3.out⟩
          case measure => simp [intOf]; omega
        · have hjp : 0 < j := by omega
          have hjb : ((j : Int) == 0) = false := by simp; omega
          clear hj0
          go_wp2_with fail
          refine (rshow_shw _ _ (by omega) (by omega)).mono ?_
          rintro e w3 ⟨rfl, hb3⟩
          have b3 := Lib.hid (below_then b2.out hb3)
          go_wp2
          go_roundw
          case rel => exact ⟨j + 1, _, by omega, by go_num, rfl, by rw [app_data, app_data, HS.out, shw_data]; exact HO.out hjp, b3.out⟩
          case measure => simp [intOf]; omega
      · have HE := Lib.hid (show xs.take j = xs from List.take_of_length_le (by omega))
        go_wp2
        go_ret
        refine ⟨ret_str ?_, ?_⟩
        · have h1 := HS.out
          rw [HE.out] at h1
          apply ByteArray.ext
          rw [← h1]
        · have h2 := HG.out
          subst h2
          exact below_then b1.out b2.out
theorem rshow_2 (n s : Int) (A : Option Addr) (c : Nat) (xs : List Int) (w : World) {B : Nat} (h : IntsAt w B A xs) (hB : B ≤ w.heap.size) (hl : xs.length ≤ 300) (r : rightB 2 n s xs = true)
    (n0 : -9223372036854775808 ≤ n) (n1 : n ≤ 9223372036854775807) :
    Calls Tryd.prog 14 #[.agg #[.int .i64 2, .int .i64 n, .slice A xs.length c, .int .i64 s]] w fun e w' => e = .returned (.string ⟨(headL 2 n ++ outL xs).toArray⟩) ∧ Below w.heap.size w w' := by
  have hr := Lib.hid (rright_any 2 n s A c xs _ (h.alloc hB (.cells #[.int .i64 2, .int .i64 n, .slice A xs.length c, .int .i64 s] 25)) (by simp; omega) (by unfold maxLen; omega))
  rw [r] at hr
  have HX := Lib.hid (right_all r)
  have HI := Lib.hid (fun (j : Nat) (hj : j < xs.length) => in31_at (right_all r) hj)
  have H := Lib.hid h
  have HB := Lib.hid hB
  have hz := shw_small n n0 n1
  have hwk : IntKind.i64.wrap 1 = 1 := by decide
  have hz6 : ¬ 9223372036854775807 < 6 + (shw n).size := by omega
  clear r h hB
  go_enter Tryd.func14, Tryd.ntmps14
  go_wp2_with fail
  refine hr.out.mono ?_
  rintro e w1 ⟨rfl, hb1⟩
  have b1 := Lib.hid (below_then (below_new _ _) hb1)
  have z1 : w.heap.size < w1.heap.size := by have := hb1.size; simp at this; omega
  have q0 : w1.cell? ⟨w.heap.size, 0, none⟩ = some (.int .i64 2) := ((bcell hb1).1 _ 0 (by simp)).trans (Go.Joins.cell_alloc_mark_at w _ _ _ _ 0 rfl)
  have q1 : w1.cell? ⟨w.heap.size, 1, none⟩ = some (.int .i64 n) := ((bcell hb1).1 _ 1 (by simp)).trans (Go.Joins.cell_alloc_mark_at w _ _ _ _ 1 rfl)
  have q2 : w1.cell? ⟨w.heap.size, 2, none⟩ = some (.slice A xs.length c) := ((bcell hb1).1 _ 2 (by simp)).trans (Go.Joins.cell_alloc_mark_at w _ _ _ _ 2 rfl)
  clear hr hb1
  obtain ⟨g, hg⟩ : ∃ g, g = w.heap.size := ⟨_, rfl⟩
  rw [← hg] at z1 q0 q1 q2
  rw [← hg]
  have HG := Lib.hid hg
  clear hg
  go_upto_region 3 with fail
  go_cut [3] (fun s3 wx => s3 = .string (hS 2 n) ∧ Below w1.heap.size w1 wx)
  case first =>
    go_region_with ((go_at_call 26; refine (rshow_shw _ _ n0 n1).mono ?_; rintro e w2 ⟨rfl, hb2⟩; have k0 : w2.cell? ⟨g, 0, none⟩ = some _ := (hb2.cell (p := ⟨g, 0, none⟩) (by simpa using z1)).trans q0; have k1 : w2.cell? ⟨g, 1, none⟩ = some _ := (hb2.cell (p := ⟨g, 1, none⟩) (by simpa using z1)).trans q1; have z2 : g < w2.heap.size := Nat.lt_of_lt_of_le z1 (by simpa using hb2.size)))
    all_goals (go_wp2_with fail; go_meet; exact ⟨rfl, (show Below w1.heap.size w1 w2 from ⟨hb2.os, hb2.tape, hb2.output, hb2.size, hb2.block⟩).alloc hb2.size _⟩)
  case rest =>
    obtain ⟨rfl, hbc⟩ := hcut
    obtain ⟨hcc, hfc⟩ := bcell hbc
    go_wp2_with fail
    go_loopw [3, 4] (fun v i wr => SInv (headL 2 n) xs w1 v i wr) (fun _ i _ => xs.length - (intOf i).toNat)
    case atStart => exact ⟨0, _, Nat.zero_le _, rfl, rfl, by rw [hS_data]; simp [outL], hbc⟩
    case round =>
      obtain ⟨j, S, hj, rfl, rfl, hS, hbj⟩ := hrel
      have HS := Lib.hid hS
      have hbS := size_of_list hS
      have hsS : S.size ≤ 7000 := by
        have h1 := head_small 2 n n0 n1
        have h2 := out_len (all_take HX.out j)
        rw [List.length_take] at h2
        rw [hbS, List.length_append]
        omega
      clear hS hbS
      obtain ⟨hcj, hfj⟩ := bcell hbj
      have b2 := Lib.hid hbj
      by_cases hlt : j < xs.length
      · obtain ⟨ad, hA, hb, hcell⟩ := (((H.out.more (HB.out)).below b1.out).below (Go.Joins.below_le hbj (by have := HG.out; omega))).at_ hlt
        have hx := HI.out j hlt
        have hsz := shw_small xs[j] (by omega) (by omega)
        have HO := Lib.hid (fun h0 : 0 < j => out_next hlt h0 (headL 2 n))
        have HF := Lib.hid (fun h0 : 0 < xs.length => out_first h0 (headL 2 n))
        subst hA
        by_cases hj0 : j = 0
        · subst hj0
          have hcell0 : wr.cell? ad = some (.int .i64 xs[0]) := by simpa [Addr.add] using hcell
          clear hcell
          go_wp2_with fail
          refine (rshow_shw _ _ (by omega) (by omega)).mono ?_
          rintro e w3 ⟨rfl, hb3⟩
          have b3 := Lib.hid (below_then b2.out hb3)
          go_wp2
          go_roundw
          case rel => exact ⟨1, _, by omega, by go_num, rfl, by rw [app_data, app_data, app_data, HS.out, shw_data]; exact HF.out hlt, b3.out⟩
          case measure => simp [intOf]; omega
        · have hjp : 0 < j := by omega
          have hjb : ((j : Int) == 0) = false := by simp; omega
          clear hj0
          go_wp2_with fail
          refine (rshow_shw _ _ (by omega) (by omega)).mono ?_
          rintro e w3 ⟨rfl, hb3⟩
          have b3 := Lib.hid (below_then b2.out hb3)
          go_wp2
          go_roundw
          case rel => exact ⟨j + 1, _, by omega, by go_num, rfl, by rw [app_data, app_data, HS.out, shw_data]; exact HO.out hjp, b3.out⟩
          case measure => simp [intOf]; omega
      · have HE := Lib.hid (show xs.take j = xs from List.take_of_length_le (by omega))
        go_wp2
        go_ret
        refine ⟨ret_str ?_, ?_⟩
        · have h1 := HS.out
          rw [HE.out] at h1
          apply ByteArray.ext
          rw [← h1]
        · have h2 := HG.out
          subst h2
          exact below_then b1.out b2.out
theorem rshow_3 (n s : Int) (A : Option Addr) (c : Nat) (xs : List Int) (w : World) {B : Nat} (h : IntsAt w B A xs) (hB : B ≤ w.heap.size) (hl : xs.length ≤ 300) (r : rightB 3 n s xs = true)
    (n0 : -9223372036854775808 ≤ n) (n1 : n ≤ 9223372036854775807) :
    Calls Tryd.prog 14 #[.agg #[.int .i64 3, .int .i64 n, .slice A xs.length c, .int .i64 s]] w fun e w' => e = .returned (.string ⟨(headL 3 n ++ outL xs).toArray⟩) ∧ Below w.heap.size w w' := by
  have hr := Lib.hid (rright_any 3 n s A c xs _ (h.alloc hB (.cells #[.int .i64 3, .int .i64 n, .slice A xs.length c, .int .i64 s] 25)) (by simp; omega) (by unfold maxLen; omega))
  rw [r] at hr
  have HX := Lib.hid (right_all r)
  have HI := Lib.hid (fun (j : Nat) (hj : j < xs.length) => in31_at (right_all r) hj)
  have H := Lib.hid h
  have HB := Lib.hid hB
  have hz := shw_small n n0 n1
  have hwk : IntKind.i64.wrap 2 = 2 := by decide
  have hz6 : ¬ 9223372036854775807 < 6 + (shw n).size := by omega
  clear r h hB
  go_enter Tryd.func14, Tryd.ntmps14
  go_wp2_with fail
  refine hr.out.mono ?_
  rintro e w1 ⟨rfl, hb1⟩
  have b1 := Lib.hid (below_then (below_new _ _) hb1)
  have z1 : w.heap.size < w1.heap.size := by have := hb1.size; simp at this; omega
  have q0 : w1.cell? ⟨w.heap.size, 0, none⟩ = some (.int .i64 3) := ((bcell hb1).1 _ 0 (by simp)).trans (Go.Joins.cell_alloc_mark_at w _ _ _ _ 0 rfl)
  have q1 : w1.cell? ⟨w.heap.size, 1, none⟩ = some (.int .i64 n) := ((bcell hb1).1 _ 1 (by simp)).trans (Go.Joins.cell_alloc_mark_at w _ _ _ _ 1 rfl)
  have q2 : w1.cell? ⟨w.heap.size, 2, none⟩ = some (.slice A xs.length c) := ((bcell hb1).1 _ 2 (by simp)).trans (Go.Joins.cell_alloc_mark_at w _ _ _ _ 2 rfl)
  clear hr hb1
  obtain ⟨g, hg⟩ : ∃ g, g = w.heap.size := ⟨_, rfl⟩
  rw [← hg] at z1 q0 q1 q2
  rw [← hg]
  have HG := Lib.hid hg
  clear hg
  go_upto_region 3 with fail
  go_cut [3] (fun s3 wx => s3 = .string (hS 3 n) ∧ Below w1.heap.size w1 wx)
  case first =>
    go_region_with ((go_at_call 26; refine (rshow_shw _ _ n0 n1).mono ?_; rintro e w2 ⟨rfl, hb2⟩; have k0 : w2.cell? ⟨g, 0, none⟩ = some _ := (hb2.cell (p := ⟨g, 0, none⟩) (by simpa using z1)).trans q0; have k1 : w2.cell? ⟨g, 1, none⟩ = some _ := (hb2.cell (p := ⟨g, 1, none⟩) (by simpa using z1)).trans q1; have z2 : g < w2.heap.size := Nat.lt_of_lt_of_le z1 (by simpa using hb2.size)))
    all_goals (go_wp2_with fail; go_meet; exact ⟨rfl, (show Below w1.heap.size w1 w2 from ⟨hb2.os, hb2.tape, hb2.output, hb2.size, hb2.block⟩).alloc hb2.size _⟩)
  case rest =>
    obtain ⟨rfl, hbc⟩ := hcut
    obtain ⟨hcc, hfc⟩ := bcell hbc
    go_wp2_with fail
    go_loopw [3, 4] (fun v i wr => SInv (headL 3 n) xs w1 v i wr) (fun _ i _ => xs.length - (intOf i).toNat)
    case atStart => exact ⟨0, _, Nat.zero_le _, rfl, rfl, by rw [hS_data]; simp [outL], hbc⟩
    case round =>
      obtain ⟨j, S, hj, rfl, rfl, hS, hbj⟩ := hrel
      have HS := Lib.hid hS
      have hbS := size_of_list hS
      have hsS : S.size ≤ 7000 := by
        have h1 := head_small 3 n n0 n1
        have h2 := out_len (all_take HX.out j)
        rw [List.length_take] at h2
        rw [hbS, List.length_append]
        omega
      clear hS hbS
      obtain ⟨hcj, hfj⟩ := bcell hbj
      have b2 := Lib.hid hbj
      by_cases hlt : j < xs.length
      · obtain ⟨ad, hA, hb, hcell⟩ := (((H.out.more (HB.out)).below b1.out).below (Go.Joins.below_le hbj (by have := HG.out; omega))).at_ hlt
        have hx := HI.out j hlt
        have hsz := shw_small xs[j] (by omega) (by omega)
        have HO := Lib.hid (fun h0 : 0 < j => out_next hlt h0 (headL 3 n))
        have HF := Lib.hid (fun h0 : 0 < xs.length => out_first h0 (headL 3 n))
        subst hA
        by_cases hj0 : j = 0
        · subst hj0
          have hcell0 : wr.cell? ad = some (.int .i64 xs[0]) := by simpa [Addr.add] using hcell
          clear hcell
          go_wp2_with fail
          refine (rshow_shw _ _ (by omega) (by omega)).mono ?_
          rintro e w3 ⟨rfl, hb3⟩
          have b3 := Lib.hid (below_then b2.out hb3)
          go_wp2
          go_roundw
          case rel => exact ⟨1, _, by omega, by go_num, rfl, by rw [app_data, app_data, app_data, HS.out, shw_data]; exact HF.out hlt, b3.out⟩
          case measure => simp [intOf]; omega
        · have hjp : 0 < j := by omega
          have hjb : ((j : Int) == 0) = false := by simp; omega
          clear hj0
          go_wp2_with fail
          refine (rshow_shw _ _ (by omega) (by omega)).mono ?_
          rintro e w3 ⟨rfl, hb3⟩
          have b3 := Lib.hid (below_then b2.out hb3)
          go_wp2
          go_roundw
          case rel => exact ⟨j + 1, _, by omega, by go_num, rfl, by rw [app_data, app_data, HS.out, shw_data]; exact HO.out hjp, b3.out⟩
          case measure => simp [intOf]; omega
      · have HE := Lib.hid (show xs.take j = xs from List.take_of_length_le (by omega))
        go_wp2
        go_ret
        refine ⟨ret_str ?_, ?_⟩
        · have h1 := HS.out
          rw [HE.out] at h1
          apply ByteArray.ext
          rw [← h1]
        · have h2 := HG.out
          subst h2
          exact below_then b1.out b2.out
theorem rshow_4 (n s : Int) (A : Option Addr) (c : Nat) (xs : List Int) (w : World) {B : Nat} (h : IntsAt w B A xs) (hB : B ≤ w.heap.size) (hl : xs.length ≤ 300) (r : rightB 4 n s xs = true)
    (n0 : -9223372036854775808 ≤ n) (n1 : n ≤ 9223372036854775807) :
    Calls Tryd.prog 14 #[.agg #[.int .i64 4, .int .i64 n, .slice A xs.length c, .int .i64 s]] w fun e w' => e = .returned (.string ⟨(headL 4 n ++ outL xs).toArray⟩) ∧ Below w.heap.size w w' := by
  have hr := Lib.hid (rright_any 4 n s A c xs _ (h.alloc hB (.cells #[.int .i64 4, .int .i64 n, .slice A xs.length c, .int .i64 s] 25)) (by simp; omega) (by unfold maxLen; omega))
  rw [r] at hr
  have HX := Lib.hid (right_all r)
  have HI := Lib.hid (fun (j : Nat) (hj : j < xs.length) => in31_at (right_all r) hj)
  have H := Lib.hid h
  have HB := Lib.hid hB
  have hz := shw_small n n0 n1
  have hwk : IntKind.i64.wrap 3 = 3 := by decide
  have hz6 : ¬ 9223372036854775807 < 6 + (shw n).size := by omega
  clear r h hB
  go_enter Tryd.func14, Tryd.ntmps14
  go_wp2_with fail
  refine hr.out.mono ?_
  rintro e w1 ⟨rfl, hb1⟩
  have b1 := Lib.hid (below_then (below_new _ _) hb1)
  have z1 : w.heap.size < w1.heap.size := by have := hb1.size; simp at this; omega
  have q0 : w1.cell? ⟨w.heap.size, 0, none⟩ = some (.int .i64 4) := ((bcell hb1).1 _ 0 (by simp)).trans (Go.Joins.cell_alloc_mark_at w _ _ _ _ 0 rfl)
  have q1 : w1.cell? ⟨w.heap.size, 1, none⟩ = some (.int .i64 n) := ((bcell hb1).1 _ 1 (by simp)).trans (Go.Joins.cell_alloc_mark_at w _ _ _ _ 1 rfl)
  have q2 : w1.cell? ⟨w.heap.size, 2, none⟩ = some (.slice A xs.length c) := ((bcell hb1).1 _ 2 (by simp)).trans (Go.Joins.cell_alloc_mark_at w _ _ _ _ 2 rfl)
  clear hr hb1
  obtain ⟨g, hg⟩ : ∃ g, g = w.heap.size := ⟨_, rfl⟩
  rw [← hg] at z1 q0 q1 q2
  rw [← hg]
  have HG := Lib.hid hg
  clear hg
  go_upto_region 3 with fail
  go_cut [3] (fun s3 wx => s3 = .string (hS 4 n) ∧ Below w1.heap.size w1 wx)
  case first =>
    go_region_with ((go_at_call 26; refine (rshow_shw _ _ n0 n1).mono ?_; rintro e w2 ⟨rfl, hb2⟩; have k0 : w2.cell? ⟨g, 0, none⟩ = some _ := (hb2.cell (p := ⟨g, 0, none⟩) (by simpa using z1)).trans q0; have k1 : w2.cell? ⟨g, 1, none⟩ = some _ := (hb2.cell (p := ⟨g, 1, none⟩) (by simpa using z1)).trans q1; have z2 : g < w2.heap.size := Nat.lt_of_lt_of_le z1 (by simpa using hb2.size)))
    all_goals (go_wp2_with fail; go_meet; exact ⟨rfl, (show Below w1.heap.size w1 w2 from ⟨hb2.os, hb2.tape, hb2.output, hb2.size, hb2.block⟩).alloc hb2.size _⟩)
  case rest =>
    obtain ⟨rfl, hbc⟩ := hcut
    obtain ⟨hcc, hfc⟩ := bcell hbc
    go_wp2_with fail
    go_loopw [3, 4] (fun v i wr => SInv (headL 4 n) xs w1 v i wr) (fun _ i _ => xs.length - (intOf i).toNat)
    case atStart => exact ⟨0, _, Nat.zero_le _, rfl, rfl, by rw [hS_data]; simp [outL], hbc⟩
    case round =>
      obtain ⟨j, S, hj, rfl, rfl, hS, hbj⟩ := hrel
      have HS := Lib.hid hS
      have hbS := size_of_list hS
      have hsS : S.size ≤ 7000 := by
        have h1 := head_small 4 n n0 n1
        have h2 := out_len (all_take HX.out j)
        rw [List.length_take] at h2
        rw [hbS, List.length_append]
        omega
      clear hS hbS
      obtain ⟨hcj, hfj⟩ := bcell hbj
      have b2 := Lib.hid hbj
      by_cases hlt : j < xs.length
      · obtain ⟨ad, hA, hb, hcell⟩ := (((H.out.more (HB.out)).below b1.out).below (Go.Joins.below_le hbj (by have := HG.out; omega))).at_ hlt
        have hx := HI.out j hlt
        have hsz := shw_small xs[j] (by omega) (by omega)
        have HO := Lib.hid (fun h0 : 0 < j => out_next hlt h0 (headL 4 n))
        have HF := Lib.hid (fun h0 : 0 < xs.length => out_first h0 (headL 4 n))
        subst hA
        by_cases hj0 : j = 0
        · subst hj0
          have hcell0 : wr.cell? ad = some (.int .i64 xs[0]) := by simpa [Addr.add] using hcell
          clear hcell
          go_wp2_with fail
          refine (rshow_shw _ _ (by omega) (by omega)).mono ?_
          rintro e w3 ⟨rfl, hb3⟩
          have b3 := Lib.hid (below_then b2.out hb3)
          go_wp2
          go_roundw
          case rel => exact ⟨1, _, by omega, by go_num, rfl, by rw [app_data, app_data, app_data, HS.out, shw_data]; exact HF.out hlt, b3.out⟩
          case measure => simp [intOf]; omega
        · have hjp : 0 < j := by omega
          have hjb : ((j : Int) == 0) = false := by simp; omega
          clear hj0
          go_wp2_with fail
          refine (rshow_shw _ _ (by omega) (by omega)).mono ?_
          rintro e w3 ⟨rfl, hb3⟩
          have b3 := Lib.hid (below_then b2.out hb3)
          go_wp2
          go_roundw
          case rel => exact ⟨j + 1, _, by omega, by go_num, rfl, by rw [app_data, app_data, HS.out, shw_data]; exact HO.out hjp, b3.out⟩
          case measure => simp [intOf]; omega
      · have HE := Lib.hid (show xs.take j = xs from List.take_of_length_le (by omega))
        go_wp2
        go_ret
        refine ⟨ret_str ?_, ?_⟩
        · have h1 := HS.out
          rw [HE.out] at h1
          apply ByteArray.ext
          rw [← h1]
        · have h2 := HG.out
          subst h2
          exact below_then b1.out b2.out
theorem rshow_5 (n s : Int) (A : Option Addr) (c : Nat) (xs : List Int) (w : World) {B : Nat} (h : IntsAt w B A xs) (hB : B ≤ w.heap.size) (hl : xs.length ≤ 300) (r : rightB 5 n s xs = true)
    (n0 : -9223372036854775808 ≤ n) (n1 : n ≤ 9223372036854775807) :
    Calls Tryd.prog 14 #[.agg #[.int .i64 5, .int .i64 n, .slice A xs.length c, .int .i64 s]] w fun e w' => e = .returned (.string ⟨(headL 5 n ++ outL xs).toArray⟩) ∧ Below w.heap.size w w' := by
  have hr := Lib.hid (rright_any 5 n s A c xs _ (h.alloc hB (.cells #[.int .i64 5, .int .i64 n, .slice A xs.length c, .int .i64 s] 25)) (by simp; omega) (by unfold maxLen; omega))
  rw [r] at hr
  have HX := Lib.hid (right_all r)
  have HI := Lib.hid (fun (j : Nat) (hj : j < xs.length) => in31_at (right_all r) hj)
  have H := Lib.hid h
  have HB := Lib.hid hB
  have hz := shw_small n n0 n1
  have hwk : IntKind.i64.wrap 4 = 4 := by decide
  have hz6 : ¬ 9223372036854775807 < 6 + (shw n).size := by omega
  clear r h hB
  go_enter Tryd.func14, Tryd.ntmps14
  go_wp2_with fail
  refine hr.out.mono ?_
  rintro e w1 ⟨rfl, hb1⟩
  have b1 := Lib.hid (below_then (below_new _ _) hb1)
  have z1 : w.heap.size < w1.heap.size := by have := hb1.size; simp at this; omega
  have q0 : w1.cell? ⟨w.heap.size, 0, none⟩ = some (.int .i64 5) := ((bcell hb1).1 _ 0 (by simp)).trans (Go.Joins.cell_alloc_mark_at w _ _ _ _ 0 rfl)
  have q1 : w1.cell? ⟨w.heap.size, 1, none⟩ = some (.int .i64 n) := ((bcell hb1).1 _ 1 (by simp)).trans (Go.Joins.cell_alloc_mark_at w _ _ _ _ 1 rfl)
  have q2 : w1.cell? ⟨w.heap.size, 2, none⟩ = some (.slice A xs.length c) := ((bcell hb1).1 _ 2 (by simp)).trans (Go.Joins.cell_alloc_mark_at w _ _ _ _ 2 rfl)
  clear hr hb1
  obtain ⟨g, hg⟩ : ∃ g, g = w.heap.size := ⟨_, rfl⟩
  rw [← hg] at z1 q0 q1 q2
  rw [← hg]
  have HG := Lib.hid hg
  clear hg
  go_upto_region 3 with fail
  go_cut [3] (fun s3 wx => s3 = .string (hS 5 n) ∧ Below w1.heap.size w1 wx)
  case first =>
    go_region_with ((go_at_call 26; refine (rshow_shw _ _ n0 n1).mono ?_; rintro e w2 ⟨rfl, hb2⟩; have k0 : w2.cell? ⟨g, 0, none⟩ = some _ := (hb2.cell (p := ⟨g, 0, none⟩) (by simpa using z1)).trans q0; have k1 : w2.cell? ⟨g, 1, none⟩ = some _ := (hb2.cell (p := ⟨g, 1, none⟩) (by simpa using z1)).trans q1; have z2 : g < w2.heap.size := Nat.lt_of_lt_of_le z1 (by simpa using hb2.size)))
    all_goals (go_wp2_with fail; go_meet; exact ⟨rfl, (show Below w1.heap.size w1 w2 from ⟨hb2.os, hb2.tape, hb2.output, hb2.size, hb2.block⟩).alloc hb2.size _⟩)
  case rest =>
    obtain ⟨rfl, hbc⟩ := hcut
    obtain ⟨hcc, hfc⟩ := bcell hbc
    go_wp2_with fail
    go_loopw [3, 4] (fun v i wr => SInv (headL 5 n) xs w1 v i wr) (fun _ i _ => xs.length - (intOf i).toNat)
    case atStart => exact ⟨0, _, Nat.zero_le _, rfl, rfl, by rw [hS_data]; simp [outL], hbc⟩
    case round =>
      obtain ⟨j, S, hj, rfl, rfl, hS, hbj⟩ := hrel
      have HS := Lib.hid hS
      have hbS := size_of_list hS
      have hsS : S.size ≤ 7000 := by
        have h1 := head_small 5 n n0 n1
        have h2 := out_len (all_take HX.out j)
        rw [List.length_take] at h2
        rw [hbS, List.length_append]
        omega
      clear hS hbS
      obtain ⟨hcj, hfj⟩ := bcell hbj
      have b2 := Lib.hid hbj
      by_cases hlt : j < xs.length
      · obtain ⟨ad, hA, hb, hcell⟩ := (((H.out.more (HB.out)).below b1.out).below (Go.Joins.below_le hbj (by have := HG.out; omega))).at_ hlt
        have hx := HI.out j hlt
        have hsz := shw_small xs[j] (by omega) (by omega)
        have HO := Lib.hid (fun h0 : 0 < j => out_next hlt h0 (headL 5 n))
        have HF := Lib.hid (fun h0 : 0 < xs.length => out_first h0 (headL 5 n))
        subst hA
        by_cases hj0 : j = 0
        · subst hj0
          have hcell0 : wr.cell? ad = some (.int .i64 xs[0]) := by simpa [Addr.add] using hcell
          clear hcell
          go_wp2_with fail
          refine (rshow_shw _ _ (by omega) (by omega)).mono ?_
          rintro e w3 ⟨rfl, hb3⟩
          have b3 := Lib.hid (below_then b2.out hb3)
          go_wp2
          go_roundw
          case rel => exact ⟨1, _, by omega, by go_num, rfl, by rw [app_data, app_data, app_data, HS.out, shw_data]; exact HF.out hlt, b3.out⟩
          case measure => simp [intOf]; omega
        · have hjp : 0 < j := by omega
          have hjb : ((j : Int) == 0) = false := by simp; omega
          clear hj0
          go_wp2_with fail
          refine (rshow_shw _ _ (by omega) (by omega)).mono ?_
          rintro e w3 ⟨rfl, hb3⟩
          have b3 := Lib.hid (below_then b2.out hb3)
          go_wp2
          go_roundw
          case rel => exact ⟨j + 1, _, by omega, by go_num, rfl, by rw [app_data, app_data, HS.out, shw_data]; exact HO.out hjp, b3.out⟩
          case measure => simp [intOf]; omega
      · have HE := Lib.hid (show xs.take j = xs from List.take_of_length_le (by omega))
        go_wp2
        go_ret
        refine ⟨ret_str ?_, ?_⟩
        · have h1 := HS.out
          rw [HE.out] at h1
          apply ByteArray.ext
          rw [← h1]
        · have h2 := HG.out
          subst h2
          exact below_then b1.out b2.out
theorem rshow_6 (n s : Int) (A : Option Addr) (c : Nat) (xs : List Int) (w : World) {B : Nat} (h : IntsAt w B A xs) (hB : B ≤ w.heap.size) (hl : xs.length ≤ 300) (r : rightB 6 n s xs = true)
    (n0 : -9223372036854775808 ≤ n) (n1 : n ≤ 9223372036854775807) :
    Calls Tryd.prog 14 #[.agg #[.int .i64 6, .int .i64 n, .slice A xs.length c, .int .i64 s]] w fun e w' => e = .returned (.string ⟨(headL 6 n ++ outL xs).toArray⟩) ∧ Below w.heap.size w w' := by
  have hr := Lib.hid (rright_any 6 n s A c xs _ (h.alloc hB (.cells #[.int .i64 6, .int .i64 n, .slice A xs.length c, .int .i64 s] 25)) (by simp; omega) (by unfold maxLen; omega))
  rw [r] at hr
  have HX := Lib.hid (right_all r)
  have HI := Lib.hid (fun (j : Nat) (hj : j < xs.length) => in31_at (right_all r) hj)
  have H := Lib.hid h
  have HB := Lib.hid hB
  have hz := shw_small n n0 n1
  have hwk : IntKind.i64.wrap 5 = 5 := by decide
  have hz6 : ¬ 9223372036854775807 < 6 + (shw n).size := by omega
  clear r h hB
  go_enter Tryd.func14, Tryd.ntmps14
  go_wp2_with fail
  refine hr.out.mono ?_
  rintro e w1 ⟨rfl, hb1⟩
  have b1 := Lib.hid (below_then (below_new _ _) hb1)
  have z1 : w.heap.size < w1.heap.size := by have := hb1.size; simp at this; omega
  have q0 : w1.cell? ⟨w.heap.size, 0, none⟩ = some (.int .i64 6) := ((bcell hb1).1 _ 0 (by simp)).trans (Go.Joins.cell_alloc_mark_at w _ _ _ _ 0 rfl)
  have q1 : w1.cell? ⟨w.heap.size, 1, none⟩ = some (.int .i64 n) := ((bcell hb1).1 _ 1 (by simp)).trans (Go.Joins.cell_alloc_mark_at w _ _ _ _ 1 rfl)
  have q2 : w1.cell? ⟨w.heap.size, 2, none⟩ = some (.slice A xs.length c) := ((bcell hb1).1 _ 2 (by simp)).trans (Go.Joins.cell_alloc_mark_at w _ _ _ _ 2 rfl)
  clear hr hb1
  obtain ⟨g, hg⟩ : ∃ g, g = w.heap.size := ⟨_, rfl⟩
  rw [← hg] at z1 q0 q1 q2
  rw [← hg]
  have HG := Lib.hid hg
  clear hg
  go_upto_region 3 with fail
  go_cut [3] (fun s3 wx => s3 = .string (hS 6 n) ∧ Below w1.heap.size w1 wx)
  case first =>
    go_region_with ((go_at_call 26; refine (rshow_shw _ _ n0 n1).mono ?_; rintro e w2 ⟨rfl, hb2⟩; have k0 : w2.cell? ⟨g, 0, none⟩ = some _ := (hb2.cell (p := ⟨g, 0, none⟩) (by simpa using z1)).trans q0; have k1 : w2.cell? ⟨g, 1, none⟩ = some _ := (hb2.cell (p := ⟨g, 1, none⟩) (by simpa using z1)).trans q1; have z2 : g < w2.heap.size := Nat.lt_of_lt_of_le z1 (by simpa using hb2.size)))
    all_goals (go_wp2_with fail; go_meet; exact ⟨rfl, (show Below w1.heap.size w1 w2 from ⟨hb2.os, hb2.tape, hb2.output, hb2.size, hb2.block⟩).alloc hb2.size _⟩)
  case rest =>
    obtain ⟨rfl, hbc⟩ := hcut
    obtain ⟨hcc, hfc⟩ := bcell hbc
    go_wp2_with fail
    go_loopw [3, 4] (fun v i wr => SInv (headL 6 n) xs w1 v i wr) (fun _ i _ => xs.length - (intOf i).toNat)
    case atStart => exact ⟨0, _, Nat.zero_le _, rfl, rfl, by rw [hS_data]; simp [outL], hbc⟩
    case round =>
      obtain ⟨j, S, hj, rfl, rfl, hS, hbj⟩ := hrel
      have HS := Lib.hid hS
      have hbS := size_of_list hS
      have hsS : S.size ≤ 7000 := by
        have h1 := head_small 6 n n0 n1
        have h2 := out_len (all_take HX.out j)
        rw [List.length_take] at h2
        rw [hbS, List.length_append]
        omega
      clear hS hbS
      obtain ⟨hcj, hfj⟩ := bcell hbj
      have b2 := Lib.hid hbj
      by_cases hlt : j < xs.length
      · obtain ⟨ad, hA, hb, hcell⟩ := (((H.out.more (HB.out)).below b1.out).below (Go.Joins.below_le hbj (by have := HG.out; omega))).at_ hlt
        have hx := HI.out j hlt
        have hsz := shw_small xs[j] (by omega) (by omega)
        have HO := Lib.hid (fun h0 : 0 < j => out_next hlt h0 (headL 6 n))
        have HF := Lib.hid (fun h0 : 0 < xs.length => out_first h0 (headL 6 n))
        subst hA
        by_cases hj0 : j = 0
        · subst hj0
          have hcell0 : wr.cell? ad = some (.int .i64 xs[0]) := by simpa [Addr.add] using hcell
          clear hcell
          go_wp2_with fail
          refine (rshow_shw _ _ (by omega) (by omega)).mono ?_
          rintro e w3 ⟨rfl, hb3⟩
          have b3 := Lib.hid (below_then b2.out hb3)
          go_wp2
          go_roundw
          case rel => exact ⟨1, _, by omega, by go_num, rfl, by rw [app_data, app_data, app_data, HS.out, shw_data]; exact HF.out hlt, b3.out⟩
          case measure => simp [intOf]; omega
        · have hjp : 0 < j := by omega
          have hjb : ((j : Int) == 0) = false := by simp; omega
          clear hj0
          go_wp2_with fail
          refine (rshow_shw _ _ (by omega) (by omega)).mono ?_
          rintro e w3 ⟨rfl, hb3⟩
          have b3 := Lib.hid (below_then b2.out hb3)
          go_wp2
          go_roundw
          case rel => exact ⟨j + 1, _, by omega, by go_num, rfl, by rw [app_data, app_data, HS.out, shw_data]; exact HO.out hjp, b3.out⟩
          case measure => simp [intOf]; omega
      · have HE := Lib.hid (show xs.take j = xs from List.take_of_length_le (by omega))
        go_wp2
        go_ret
        refine ⟨ret_str ?_, ?_⟩
        · have h1 := HS.out
          rw [HE.out] at h1
          apply ByteArray.ext
          rw [← h1]
        · have h2 := HG.out
          subst h2
          exact below_then b1.out b2.out
theorem rshow_yes (k n s : Int) (A : Option Addr) (c : Nat) (xs : List Int) (w : World) {B : Nat} (h : IntsAt w B A xs) (hB : B ≤ w.heap.size) (hl : xs.length ≤ 300) (r : rightB k n s xs = true) (k1 : 1 ≤ k) (k6 : k ≤ 6)
    (n0 : -9223372036854775808 ≤ n) (n1 : n ≤ 9223372036854775807) :
    Calls Tryd.prog 14 #[.agg #[.int .i64 k, .int .i64 n, .slice A xs.length c, .int .i64 s]] w fun e w' => e = .returned (.string ⟨(headL k n ++ outL xs).toArray⟩) ∧ Below w.heap.size w w' := by
  have hk : k = 1 ∨ k = 2 ∨ k = 3 ∨ k = 4 ∨ k = 5 ∨ k = 6 := by omega
  rcases hk with rfl | rfl | rfl | rfl | rfl | rfl
  · exact rshow_1 n s A c xs w h hB hl r n0 n1
  · exact rshow_2 n s A c xs w h hB hl r n0 n1
  · exact rshow_3 n s A c xs w h hB hl r n0 n1
  · exact rshow_4 n s A c xs w h hB hl r n0 n1
  · exact rshow_5 n s A c xs w h hB hl r n0 n1
  · exact rshow_6 n s A c xs w h hB hl r n0 n1
end Go.Proofs.YtmcijpdockkjbaaDoor
