/-
  CONTRACTS OF ends.Show AND OF ITS REFERENCE.
-/
import Derived.Test.YtmcijpdockkjbaaDoorEndsR
import Derived.Test.YtmcijpdockkjbaaDoorBuilder
import Derived.Test.YtmcijpdockkjbaaDoorShow
import Derived.Test.YtmcijpdockkjbaaDoorStrTab
import Derived.Outline
namespace Go.Proofs.YtmcijpdockkjbaaDoor
open Go.ChangeShapes Go.WideShapes Go.ChangeAt Go.RowKit
set_option linter.unusedVariables false
set_option linter.unusedSimpArgs false
def kindNames : List (List UInt8) := [[], [100, 111, 110, 101], [114, 97, 105, 115, 101], [102, 117, 101, 108], [115, 116, 117, 99, 107], [104, 101, 97, 112], [115, 116, 97, 99, 107]]
def Names (w : World) : Prop := StrTab Tryd.prog w "camlet/ends.kindNames" kindNames
def headL (k n : Int) : List UInt8 := kindNames.getD k.toNat [] ++ if k = 2 then 32 :: Lib.itoa n else []
def numsL (xs : List Int) : List UInt8 := xs.flatMap fun x => 32 :: Lib.itoa x
def outL (xs : List Int) : List UInt8 := if xs.length = 0 then [] else 58 :: numsL xs
def showL (k n s : Int) (xs : List Int) : List UInt8 := if rightB k n s xs = true then headL k n ++ outL xs else []
theorem nums_snoc {xs : List Int} {k : Nat} (h : k < xs.length) : numsL (xs.take (k + 1)) = numsL (xs.take k) ++ (32 :: Lib.itoa xs[k]) := by
  unfold numsL; rw [List.take_succ_eq_append_getElem h, List.flatMap_append]; simp
theorem itoa_in31 {x : Int} (h : in31 x = true) : (Lib.itoa x).length ≤ 21 := by
  simp [in31] at h
  exact Lib.itoa_length_le x (by omega) (by omega)
theorem nums_len : ∀ {xs : List Int}, xs.all in31 = true → (numsL xs).length ≤ 22 * xs.length
  | [], _ => by simp [numsL]
  | x :: xs, h => by
    simp only [List.all_cons, Bool.and_eq_true] at h
    have h1 := itoa_in31 h.1
    have h2 := nums_len h.2
    unfold numsL at *
    simp only [List.flatMap_cons, List.length_append, List.length_cons]
    omega
theorem head_len (k n : Int) (h0 : -9223372036854775808 ≤ n) (h1 : n ≤ 9223372036854775807) : (headL k n).length ≤ 40 := by
  have := Lib.itoa_length_le n h0 h1
  have h2 : ∀ s ∈ kindNames, s.length ≤ 5 := by decide
  have h3 : (kindNames.getD k.toNat []).length ≤ 5 := by
    rw [List.getD_eq_getElem?_getD]
    cases h : kindNames[k.toNat]? with
    | none => simp
    | some s => exact h2 s (List.mem_of_getElem? h)
  unfold headL
  rw [List.length_append]
  split <;> simp only [List.length_cons, List.length_nil] <;> omega

theorem show_no (k n s : Int) (A : Option Addr) (c : Nat) (xs : List Int) (w : World) {B : Nat} (h : IntsAt w B A xs) (hB : B ≤ w.heap.size) (hl : xs.length ≤ maxLen) (r : rightB k n s xs = false) :
    Calls Tryd.prog 13 #[.agg #[.int .i64 k, .int .i64 n, .slice A xs.length c, .int .i64 s]] w fun e w' => e = .returned (.string ⟨#[]⟩) ∧ Below w.heap.size w w' := by
  have hr := Lib.hid (right_any k n s A c xs _ (h.alloc hB (.cells #[.int .i64 k, .int .i64 n, .slice A xs.length c, .int .i64 s] 25)) (by simp; omega) hl)
  rw [r] at hr
  clear r h
  go_enter Tryd.func13, Tryd.ntmps13
  go_wp2_with fail
  refine hr.out.mono ?_
  rintro e w1 ⟨rfl, hb1⟩
  go_wp2
  go_ret
  exact ⟨rfl, below_then (below_new _ _) hb1⟩

theorem gN : Tryd.prog.globalNamed "camlet/ends.kindNames" = some 0 := by kernel_rfl
def kN (k : Int) : List UInt8 := kindNames.getD k.toNat []
theorem names_at {w : World} (h : Names w) (k : Int) (h1 : 1 ≤ k) (h6 : k ≤ 6) : w.cell? ⟨0, k.toNat, none⟩ = some (.string ⟨(kN k).toArray⟩) := by
  refine h.cell gN _ _ ?_
  unfold kN
  rw [List.getD_eq_getElem?_getD]
  have hl : k.toNat < kindNames.length := by show k.toNat < 7; omega
  rw [List.getElem?_eq_getElem hl]; rfl
theorem names_lt {w : World} (h : Names w) : 0 < w.heap.size := by
  have := names_at h 1 (by omega) (by omega)
  rcases Nat.lt_or_ge 0 w.heap.size with h' | h'
  · exact h'
  · simp [World.cell?, Array.getElem?_eq_none h'] at this
theorem kN_len (k : Int) : (kN k).length ≤ 5 := by
  have h2 : ∀ s ∈ kindNames, s.length ≤ 5 := by decide
  unfold kN
  rw [List.getD_eq_getElem?_getD]
  cases h : kindNames[k.toNat]? with
  | none => simp
  | some s => exact h2 s (List.mem_of_getElem? h)
/-- A builder at the block behind w's, and nothing below has turned. -/
def BInv (w : World) (bs : List UInt8) (W : World) : Prop := Below w.heap.size w W ∧ IsB w.heap.size w.heap.size (Lib.byteCells bs) W
theorem binv_new (w : World) : BInv w [] (w.alloc (.cells #[.pointer none, .slice none 0 0] 39)) := ⟨below_new _ _, Lib.fresh_isBuilder _ _ _⟩
theorem binv_below {w W W' : World} {bs : List UInt8} (h : BInv w bs W) (hb : Below W.heap.size W W') : BInv w bs W' := ⟨below_then h.1 hb, isB_below h.2 hb⟩
theorem binv_write {w W : World} {bs : List UInt8} (h : BInv w bs W) (s : ByteArray) (hl : bs.length + s.size ≤ 140737488355328) :
    Calls Tryd.prog 23 #[.pointer (some ⟨w.heap.size, 0, none⟩), .string s] W fun e w' => e = .returned (.tuple #[.int .i64 s.size, .nilIface]) ∧ BInv w (bs ++ s.data.toList) w' :=
  (writeString_any w.heap.size w.heap.size _ s W h.2 (by rw [Lib.byteCells_length]; exact hl) h.1.size).mono fun _ _ ⟨he, hB, hb⟩ => ⟨he, h.1.trans hb, by
    have e : Lib.byteCells (bs ++ s.data.toList) = Lib.byteCells bs ++ Lib.strCells s := by rw [Lib.strCells_eq]; simp [Lib.byteCells]
    rw [e]; exact hB⟩
theorem binv_show {w W : World} {bs : List UInt8} (h : BInv w bs W) (hT : Pow10 w) (x : Int) (h0 : -9223372036854775808 ≤ x) (h1 : x ≤ 9223372036854775807) :
    Calls Tryd.prog 24 #[.int .i64 x] W fun e w' => e = .returned (.string (shw x)) ∧ BInv w bs w' :=
  (show_shw x W h0 h1 (hT.on h.1)).mono fun _ _ ⟨he, hb⟩ => ⟨he, binv_below h hb⟩
theorem binv_string {w W : World} {bs : List UInt8} (h : BInv w bs W) :
    Calls Tryd.prog 25 #[.pointer (some ⟨w.heap.size, 0, none⟩)] W fun e w' => e = .returned (.string ⟨bs.toArray⟩) ∧ Below w.heap.size w w' :=
  (Tryd.Builder_String_any w.heap.size w.heap.size bs W h.2 h.1.size).mono fun _ _ ⟨he, hb⟩ => ⟨he, h.1.trans hb⟩
theorem binv_lt {w W : World} {bs : List UInt8} (h : BInv w bs W) : w.heap.size < W.heap.size := h.2.elim (·.lt) (·.lt)

theorem shw_small (n : Int) (h0 : -9223372036854775808 ≤ n) (h1 : n ≤ 9223372036854775807) : (shw n).size ≤ 21 := by rw [shw_size]; exact Lib.itoa_length_le n h0 h1
theorem right_all {k n s : Int} {xs : List Int} (r : rightB k n s xs = true) : xs.all in31 = true := by unfold rightB at r; simp only [Bool.and_eq_true] at r; exact r.2
theorem in31_at {xs : List Int} (h : xs.all in31 = true) {j : Nat} (hj : j < xs.length) : -1073741824 ≤ xs[j] ∧ xs[j] ≤ 1073741823 := by
  have := List.all_eq_true.1 h xs[j] (List.getElem_mem hj); simpa [in31] using this
theorem all_take {xs : List Int} (h : xs.all in31 = true) (j : Nat) : (xs.take j).all in31 = true :=
  List.all_eq_true.2 fun x hx => List.all_eq_true.1 h x (List.mem_of_mem_take hx)
theorem show_yes (k n s : Int) (A : Option Addr) (c : Nat) (xs : List Int) (w : World) {B : Nat} (h : IntsAt w B A xs) (hB : B ≤ w.heap.size) (hl : xs.length ≤ 300) (r : rightB k n s xs = true) (k1 : 1 ≤ k) (k6 : k ≤ 6) (k2 : k = 2 ∨ (k == 2) = false)
    (n0 : -9223372036854775808 ≤ n) (n1 : n ≤ 9223372036854775807) (hN : Names w) (hT : Pow10 w) :
    Calls Tryd.prog 13 #[.agg #[.int .i64 k, .int .i64 n, .slice A xs.length c, .int .i64 s]] w fun e w' => e = .returned (.string ⟨(headL k n ++ outL xs).toArray⟩) ∧ Below w.heap.size w w' := by
  have hr := Lib.hid (right_any k n s A c xs _ (h.alloc hB (.cells #[.int .i64 k, .int .i64 n, .slice A xs.length c, .int .i64 s] 25)) (by simp; omega) (by unfold maxLen; omega))
  rw [r] at hr
  have HX := Lib.hid (right_all r)
  have HI := Lib.hid (fun (j : Nat) (hj : j < xs.length) => in31_at (right_all r) hj)
  have H := Lib.hid h
  have HN := Lib.hid hN
  have HT := Lib.hid hT
  have g0 := names_lt hN
  clear r h hN hT
  go_enter Tryd.func13, Tryd.ntmps13
  go_wp2_with fail
  refine hr.out.mono ?_
  rintro e w1 ⟨rfl, hb1⟩
  have b1 := below_then (below_new _ _) hb1
  obtain ⟨hc1, hf1⟩ := bcell hb1
  have z1 : w.heap.size < w1.heap.size := by have := hb1.size; simp at this; omega
  have hk := names_at HN.out k k1 k6
  have g1 : 0 < w1.heap.size := by omega
  have hB1 := Lib.hid (binv_new w1)
  go_wp2_with fail
  refine (binv_write hB1.out _ (by have := kN_len k; show 0 + (kN k).toArray.size ≤ _; simp; omega)).mono ?_
  rintro e w2 ⟨rfl, hB2⟩
  have z2 := binv_lt hB2
  obtain ⟨hc2, hf2⟩ := bcell hB2.1
  rcases k2 with rfl | k2
  · go_wp2_with fail
    refine (binv_show hB2 (HT.out.on b1) n n0 n1).mono ?_
    rintro e w3 ⟨rfl, hB3⟩
    have z3 := binv_lt hB3
    obtain ⟨hc3, hf3⟩ := bcell hB3.1
    have hz := shw_small n n0 n1
    go_wp2_with fail
    refine (binv_write hB3 _ (by rw [ByteArray.size_append]; show ([] ++ kN 2).length + (1 + _) ≤ _; have := kN_len 2; simp; omega)).mono ?_
    rintro e w3' ⟨rfl, hB3'⟩
    have z3' := binv_lt hB3'
    obtain ⟨hc3', hf3'⟩ := bcell hB3'.1
    clear hc2 hf2 hc3 hf3
    by_cases hx : xs.length = 0
    · have hx0 : decide (0 < xs.length) = false := decide_eq_false (by omega)
      have HX0 := Lib.hid hx
      clear hx
      go_wp2_with fail
      go_loopw [5, 30] (fun _ i wr => ∃ j : Nat, j ≤ xs.length ∧ i = .int .i64 j ∧ BInv w1 ((kN 2 ++ 32 :: (shw n).data.toList) ++ numsL (xs.take j)) wr) (fun _ i _ => xs.length - (intOf i).toNat)
      case atStart => exact ⟨0, Nat.zero_le _, rfl, by have := hB3'; simpa [numsL] using this⟩
      case round =>
        obtain ⟨j, hj, rfl, hBj⟩ := hrel
        have zj := binv_lt hBj
        obtain ⟨hcj, hfj⟩ := bcell hBj.1
        by_cases hlt : j < xs.length
        · obtain ⟨ad, hA, hb, hcell⟩ := ((H.out.more hB).below b1).at_ hlt
          have hx := HI.out j hlt
          have hsz := shw_small xs[j] (by omega) (by omega)
          have hnl := nums_len (all_take HX.out j)
          have hlj : (xs.take j).length ≤ 300 := by rw [List.length_take]; omega
          have hcl := (hBj.1.cell (p := ad.add j) (by rw [block_add]; omega)).trans hcell
          have HS := Lib.hid (nums_snoc hlt)
          subst hA
          clear hcell
          go_wp2_with fail
          refine (binv_show hBj (HT.out.on b1) _ (by omega) (by omega)).mono ?_
          rintro e w5 ⟨rfl, hB5⟩
          have z5 := binv_lt hB5
          obtain ⟨hc5, hf5⟩ := bcell hB5.1
          go_wp2_with fail
          refine (binv_write hB5 _ ?_).mono ?_
          · rw [ByteArray.size_append]
            show _ + (1 + _) ≤ _
            have := kN_len 2
            simp only [List.length_append, List.length_cons, List.length_nil, List.nil_append]
            have h3 : (shw n).data.toList.length ≤ 21 := hz
            omega
          rintro e w6 ⟨rfl, hB6⟩
          go_wp2
          go_roundw
          case rel => exact ⟨j + 1, by omega, by go_num, by rw [HS.out]; have := hB6; simpa [shw_data] using this⟩
          case measure => simp [intOf]; omega
        · go_wp2_with fail
          refine (binv_string hBj).mono ?_
          rintro e w6 ⟨rfl, hb6⟩
          go_wp2
          go_ret
          refine ⟨ret_str ?_, below_then b1 hb6⟩
          rw [List.take_of_length_le (by omega)]
          simp [headL, outL, kN, numsL, shw_data, HX0.out, List.eq_nil_of_length_eq_zero HX0.out]
    · have hx0 : 0 < xs.length := by omega
      have HX0 := Lib.hid hx
      clear hx
      go_wp2_with fail
      refine (binv_write hB3' ⟨#[58]⟩ ?_).mono ?_
      · show _ + 1 ≤ _
        have := kN_len 2
        simp only [List.length_append, List.length_cons, List.length_nil, List.nil_append]
        have h3 : (shw n).data.toList.length ≤ 21 := hz
        rw [ByteArray.data_append]; simp only [Array.toList_append, List.length_append, List.length_cons, List.length_nil]
        omega
      rintro e w4 ⟨rfl, hB4⟩
      have z4 := binv_lt hB4
      obtain ⟨hc4, hf4⟩ := bcell hB4.1
      go_wp2_with fail
      go_loopw [5, 30] (fun _ i wr => ∃ j : Nat, j ≤ xs.length ∧ i = .int .i64 j ∧ BInv w1 (((kN 2 ++ 32 :: (shw n).data.toList) ++ [58]) ++ numsL (xs.take j)) wr) (fun _ i _ => xs.length - (intOf i).toNat)
      case atStart => exact ⟨0, Nat.zero_le _, rfl, by have := hB4; simpa [numsL] using this⟩
      case round =>
        obtain ⟨j, hj, rfl, hBj⟩ := hrel
        have zj := binv_lt hBj
        obtain ⟨hcj, hfj⟩ := bcell hBj.1
        by_cases hlt : j < xs.length
        · obtain ⟨ad, hA, hb, hcell⟩ := ((H.out.more hB).below b1).at_ hlt
          have hx := HI.out j hlt
          have hsz := shw_small xs[j] (by omega) (by omega)
          have hnl := nums_len (all_take HX.out j)
          have hlj : (xs.take j).length ≤ 300 := by rw [List.length_take]; omega
          have hcl := (hBj.1.cell (p := ad.add j) (by rw [block_add]; omega)).trans hcell
          have HS := Lib.hid (nums_snoc hlt)
          subst hA
          clear hcell
          go_wp2_with fail
          refine (binv_show hBj (HT.out.on b1) _ (by omega) (by omega)).mono ?_
          rintro e w5 ⟨rfl, hB5⟩
          have z5 := binv_lt hB5
          obtain ⟨hc5, hf5⟩ := bcell hB5.1
          go_wp2_with fail
          refine (binv_write hB5 _ ?_).mono ?_
          · rw [ByteArray.size_append]
            show _ + (1 + _) ≤ _
            have := kN_len 2
            simp only [List.length_append, List.length_cons, List.length_nil, List.nil_append]
            have h3 : (shw n).data.toList.length ≤ 21 := hz
            omega
          rintro e w6 ⟨rfl, hB6⟩
          go_wp2
          go_roundw
          case rel => exact ⟨j + 1, by omega, by go_num, by rw [HS.out]; have := hB6; simpa [shw_data] using this⟩
          case measure => simp [intOf]; omega
        · go_wp2_with fail
          refine (binv_string hBj).mono ?_
          rintro e w6 ⟨rfl, hb6⟩
          go_wp2
          go_ret
          refine ⟨ret_str ?_, below_then b1 hb6⟩
          rw [List.take_of_length_le (by omega)]
          simp [headL, outL, kN, HX0.out, shw_data]
  · have K2 := Lib.hid (show ¬ k = 2 from beq_eq_false_iff_ne.1 k2)
    by_cases hx : xs.length = 0
    · have hx0 : decide (0 < xs.length) = false := decide_eq_false (by omega)
      have HX0 := Lib.hid hx
      clear hx
      go_wp2_with fail
      go_loopw [5, 30] (fun _ i wr => ∃ j : Nat, j ≤ xs.length ∧ i = .int .i64 j ∧ BInv w1 (kN k ++ numsL (xs.take j)) wr) (fun _ i _ => xs.length - (intOf i).toNat)
      case atStart => exact ⟨0, Nat.zero_le _, rfl, by have := hB2; simpa [numsL] using this⟩
      case round =>
        obtain ⟨j, hj, rfl, hBj⟩ := hrel
        have zj := binv_lt hBj
        obtain ⟨hcj, hfj⟩ := bcell hBj.1
        by_cases hlt : j < xs.length
        · obtain ⟨ad, hA, hb, hcell⟩ := ((H.out.more hB).below b1).at_ hlt
          have hx := HI.out j hlt
          have hsz := shw_small xs[j] (by omega) (by omega)
          have hnl := nums_len (all_take HX.out j)
          have hlj : (xs.take j).length ≤ 300 := by rw [List.length_take]; omega
          have hcl := (hBj.1.cell (p := ad.add j) (by rw [block_add]; omega)).trans hcell
          have HS := Lib.hid (nums_snoc hlt)
          subst hA
          clear hcell
          go_wp2_with fail
          refine (binv_show hBj (HT.out.on b1) _ (by omega) (by omega)).mono ?_
          rintro e w5 ⟨rfl, hB5⟩
          have z5 := binv_lt hB5
          obtain ⟨hc5, hf5⟩ := bcell hB5.1
          go_wp2_with fail
          refine (binv_write hB5 _ ?_).mono ?_
          · rw [ByteArray.size_append]
            show _ + (1 + _) ≤ _
            have := kN_len k
            simp only [List.length_append, List.length_cons, List.length_nil, List.nil_append]
            skip
            omega
          rintro e w6 ⟨rfl, hB6⟩
          go_wp2
          go_roundw
          case rel => exact ⟨j + 1, by omega, by go_num, by rw [HS.out]; have := hB6; simpa [shw_data] using this⟩
          case measure => simp [intOf]; omega
        · go_wp2_with fail
          refine (binv_string hBj).mono ?_
          rintro e w6 ⟨rfl, hb6⟩
          go_wp2
          go_ret
          refine ⟨ret_str ?_, below_then b1 hb6⟩
          rw [List.take_of_length_le (by omega)]
          simp [headL, outL, kN, numsL, K2.out, HX0.out, List.eq_nil_of_length_eq_zero HX0.out]
    · have hx0 : 0 < xs.length := by omega
      have HX0 := Lib.hid hx
      clear hx
      go_wp2_with fail
      refine (binv_write hB2 ⟨#[58]⟩ ?_).mono ?_
      · show _ + 1 ≤ _
        have := kN_len k
        simp only [List.length_append, List.length_cons, List.length_nil, List.nil_append]
        skip
        skip
        omega
      rintro e w4 ⟨rfl, hB4⟩
      have z4 := binv_lt hB4
      obtain ⟨hc4, hf4⟩ := bcell hB4.1
      go_wp2_with fail
      go_loopw [5, 30] (fun _ i wr => ∃ j : Nat, j ≤ xs.length ∧ i = .int .i64 j ∧ BInv w1 ((kN k ++ [58]) ++ numsL (xs.take j)) wr) (fun _ i _ => xs.length - (intOf i).toNat)
      case atStart => exact ⟨0, Nat.zero_le _, rfl, by have := hB4; simpa [numsL] using this⟩
      case round =>
        obtain ⟨j, hj, rfl, hBj⟩ := hrel
        have zj := binv_lt hBj
        obtain ⟨hcj, hfj⟩ := bcell hBj.1
        by_cases hlt : j < xs.length
        · obtain ⟨ad, hA, hb, hcell⟩ := ((H.out.more hB).below b1).at_ hlt
          have hx := HI.out j hlt
          have hsz := shw_small xs[j] (by omega) (by omega)
          have hnl := nums_len (all_take HX.out j)
          have hlj : (xs.take j).length ≤ 300 := by rw [List.length_take]; omega
          have hcl := (hBj.1.cell (p := ad.add j) (by rw [block_add]; omega)).trans hcell
          have HS := Lib.hid (nums_snoc hlt)
          subst hA
          clear hcell
          go_wp2_with fail
          refine (binv_show hBj (HT.out.on b1) _ (by omega) (by omega)).mono ?_
          rintro e w5 ⟨rfl, hB5⟩
          have z5 := binv_lt hB5
          obtain ⟨hc5, hf5⟩ := bcell hB5.1
          go_wp2_with fail
          refine (binv_write hB5 _ ?_).mono ?_
          · rw [ByteArray.size_append]
            show _ + (1 + _) ≤ _
            have := kN_len k
            simp only [List.length_append, List.length_cons, List.length_nil, List.nil_append]
            skip
            omega
          rintro e w6 ⟨rfl, hB6⟩
          go_wp2
          go_roundw
          case rel => exact ⟨j + 1, by omega, by go_num, by rw [HS.out]; have := hB6; simpa [shw_data] using this⟩
          case measure => simp [intOf]; omega
        · go_wp2_with fail
          refine (binv_string hBj).mono ?_
          rintro e w6 ⟨rfl, hb6⟩
          go_wp2
          go_ret
          refine ⟨ret_str ?_, below_then b1 hb6⟩
          rw [List.take_of_length_le (by omega)]
          simp [headL, outL, kN, HX0.out, K2.out]

end Go.Proofs.YtmcijpdockkjbaaDoor
