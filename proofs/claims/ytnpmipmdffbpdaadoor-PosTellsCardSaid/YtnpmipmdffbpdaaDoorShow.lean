/-
  CONTRACTS OF num.Show AND OF THE REFERENCE's Show: both return the decimal numeral.
-/
import Derived.Test.YtnpmipmdffbpdaaDoorInts
import Derived.Test.YtnpmipmdffbpdaaDoorShelf
import Derived.Laws.IdiomStrings
import Derived.Lib.ItoaNum
import Derived.Lib.ItoaMem
import Derived.Lib.ItoaLen
namespace Go.Proofs.YtnpmipmdffbpdaaDoor
open Go.ChangeShapes Go.WideShapes Go.ChangeAt Go.RowKit

def Pow10 (w : World) : Prop := Lib.TabIs Tryd.prog w "internal/strconv.uint64pow10" .u64 Lib.pow10Tab
theorem Pow10.on {w w' : World} (h : Pow10 w) (hb : Below w.heap.size w w') : Pow10 w' := tab_on h hb
theorem itoa_any (x : Int) (w : World) (h0 : -9223372036854775808 ≤ x) (h1 : x ≤ 9223372036854775807) (ht : Pow10 w) :
    Calls Tryd.prog 17 #[.int .i64 x] w fun e w' => e = .returned (.string ⟨(Lib.itoa x).toArray⟩) ∧ Below w.heap.size w w' :=
  (Tryd.strconv_Itoa x h0 h1 w ht).mono fun _ _ ⟨he, k, os, hw⟩ => ⟨he, by rw [hw]; exact below_grow (below_drewN (Below.refl _ _) k) (Nat.le_refl _) os⟩
theorem show_any (x : Int) (w : World) (h0 : -9223372036854775808 ≤ x) (h1 : x ≤ 9223372036854775807) (ht : Pow10 w) :
    Calls Tryd.prog 14 #[.int .i64 x] w fun e w' => e = .returned (.string ⟨(Lib.itoa x).toArray⟩) ∧ Below w.heap.size w w' := by
  go_enter Tryd.func14, Tryd.ntmps14
  go_wp2_with (go_at_call 17; refine (itoa_any _ _ h0 h1 ht).mono ?_; rintro e w' ⟨rfl, hb⟩)
  go_ret
  exact ⟨rfl, hb⟩

theorem conv_one (W : World) (n : Int) : (convert 40 9 (.slice (some ⟨W.heap.size, 0, none⟩) 1 1)).run Tryd.prog (W.alloc (.cells #[.int .u8 n] 5)) = .ok (.string ⟨#[UInt8.ofNat n.toNat]⟩) (W.alloc (.cells #[.int .u8 n] 5)) := by
  rw [run_convert_bytes_string _ 40 9 5 _ 1 1 Tryd.underlying40 Tryd.underlying5 Tryd.underlying9]
  rw [run_bytesToString _ _ 1 1 [n] ?_]
  · rfl
  · have hl := run_loadCells_list (P := Tryd.prog) (W.alloc (.cells #[.int .u8 n] 5)) ⟨W.heap.size, 0, none⟩ [.int .u8 n] (fun j v hj => by
      cases j with
      | zero =>
        simp at hj
        subst hj
        simp [Addr.add, go_sem]
      | succ j => simp at hj)
    simpa using hl
theorem str_cons (c : UInt8) (L : List UInt8) : (⟨#[c]⟩ : ByteArray) ++ ⟨L.toArray⟩ = ⟨(c :: L).toArray⟩ := by
  apply ByteArray.ext
  simp
def pre (u : Nat) : List UInt8 := if u = 0 then [] else Lib.decDigits u
theorem pre_step (u : Nat) (h : ¬ u = 0) : pre u = pre (u / 10) ++ [UInt8.ofNat (48 + u % 10)] := by
  unfold pre
  rw [if_neg h, Lib.decDigits]
  split
  · rw [if_pos (by omega), Nat.mod_eq_of_lt (by omega)]; rfl
  · rw [if_neg (by omega)]
theorem pre_first (u : Nat) : pre (u / 10) ++ [UInt8.ofNat (48 + u % 10)] = Lib.decDigits u := by
  by_cases h : u = 0
  · subst h; rw [Lib.decDigits_one (by omega)]; rfl
  · rw [← pre_step u h]; unfold pre; rw [if_neg h]
def ShowInv (U u : Nat) (s : Value) (w wr : World) : Prop := ∃ L : List UInt8, s = .string ⟨L.toArray⟩ ∧ pre u ++ L = Lib.decDigits U ∧ Below w.heap.size w wr

theorem pre_next {U u : Nat} {L : List UInt8} (h : pre u ++ L = Lib.decDigits U) (hu : ¬ u = 0) : pre (u / 10) ++ ((48 + UInt8.ofNat (u % 10)) :: L) = Lib.decDigits U := by
  rw [← h, pre_step u hu, List.append_assoc, UInt8.ofNat_add]; rfl
theorem ofNat_48 (k : Nat) : UInt8.ofNat (48 + k) = 48 + UInt8.ofNat k := by rw [UInt8.ofNat_add]; rfl
theorem dec_len (U : Nat) (h : U < 18446744073709551616) : (Lib.decDigits U).length ≤ 20 := by
  rw [Lib.decDigits_length]
  exact Lib.nDigits_le20 U h
theorem inv_len {U u : Nat} {L : List UInt8} (hU : U < 18446744073709551616) (h : pre u ++ L = Lib.decDigits U) : L.length ≤ 20 := by
  have h1 := congrArg List.length h
  have h2 := dec_len U hU
  rw [List.length_append] at h1
  omega
theorem rshow_neg (U : Nat) (w : World) (h0 : 1 ≤ U) (h1 : U ≤ 9223372036854775808) :
    Calls Tryd.prog 15 #[.int .i64 (-(U : Int))] w fun e w' => e = .returned (.string ⟨(Lib.itoa (-(U : Int))).toArray⟩) ∧ Below w.heap.size w w' := by
  have hwr : IntKind.u64.wrap (-IntKind.u64.wrap (-(U : Int))) = (U : Int) := by rw [IntKind.wrap_u64, IntKind.wrap_u64]; omega
  have cv := conv_one
  have hd : decide (0 < U) = true := decide_eq_true (by omega)
  go_enter Tryd.func15, Tryd.ntmps15
  go_wp2
  rw [ofNat_48]
  go_loopw [3, 4] (fun v s wr => ∃ u : Nat, v = .int .u64 u ∧ u ≤ U ∧ ShowInv U u s w wr) (fun v _ _ => (intOf v).toNat)
  case atStart => exact ⟨U / 10, rfl, Nat.div_le_self _ _, _, rfl, (ofNat_48 (U % 10)) ▸ pre_first U, (Below.refl _ _).alloc (Nat.le_refl _) _⟩
  case round =>
    obtain ⟨u, rfl, hle, L, rfl, hL, hb⟩ := hrel
    have hlen := inv_len (by omega) hL
    have HL := Lib.hid hL
    clear hL
    by_cases hu : u = 0
    · subst hu
      go_wp2
      go_ret
      exact ⟨ret_str ((str_cons 45 L).trans (by rw [show L = Lib.decDigits U from HL.out, Lib.itoa_neg U h0])), hb⟩
    · have hu' : 0 < u := by omega
      go_wp2
      go_roundw
      case rel => exact ⟨u / 10, rfl, by omega, _, congrArg Value.string (str_cons _ L), pre_next HL.out hu, hb.alloc hb.size _⟩
      case measure => simp [intOf]; omega

theorem rshow_pos (U : Nat) (w : World) (h1 : U ≤ 9223372036854775807) :
    Calls Tryd.prog 15 #[.int .i64 (U : Int)] w fun e w' => e = .returned (.string ⟨(Lib.itoa (U : Int)).toArray⟩) ∧ Below w.heap.size w w' := by
  have cv := conv_one
  go_enter Tryd.func15, Tryd.ntmps15
  go_wp2
  rw [ofNat_48]
  go_loopw [3, 4] (fun v s wr => ∃ u : Nat, v = .int .u64 u ∧ u ≤ U ∧ ShowInv U u s w wr) (fun v _ _ => (intOf v).toNat)
  case atStart => exact ⟨U / 10, rfl, Nat.div_le_self _ _, _, rfl, (ofNat_48 (U % 10)) ▸ pre_first U, (Below.refl _ _).alloc (Nat.le_refl _) _⟩
  case round =>
    obtain ⟨u, rfl, hle, L, rfl, hL, hb⟩ := hrel
    have hlen := inv_len (by omega) hL
    have HL := Lib.hid hL
    clear hL
    by_cases hu : u = 0
    · subst hu
      go_wp2
      go_ret
      exact ⟨ret_str (by rw [show L = Lib.decDigits U from HL.out, Lib.itoa_nonneg]), hb⟩
    · have hu' : 0 < u := by omega
      go_wp2
      go_roundw
      case rel => exact ⟨u / 10, rfl, by omega, _, congrArg Value.string (str_cons _ L), pre_next HL.out hu, hb.alloc hb.size _⟩
      case measure => simp [intOf]; omega

theorem rshow_any (x : Int) (w : World) (h0 : -9223372036854775808 ≤ x) (h1 : x ≤ 9223372036854775807) :
    Calls Tryd.prog 15 #[.int .i64 x] w fun e w' => e = .returned (.string ⟨(Lib.itoa x).toArray⟩) ∧ Below w.heap.size w w' := by
  by_cases hx : x < 0
  · obtain ⟨U, rfl⟩ : ∃ U : Nat, x = -(U : Int) := ⟨x.natAbs, by omega⟩
    exact rshow_neg U w (by omega) (by omega)
  · obtain ⟨U, rfl⟩ : ∃ U : Nat, x = (U : Int) := ⟨x.toNat, by omega⟩
    exact rshow_pos U w (by omega)
def shw (n : Int) : ByteArray := ⟨(Lib.itoa n).toArray⟩
theorem shw_data (n : Int) : (shw n).data.toList = Lib.itoa n := by simp [shw]
theorem shw_size (n : Int) : (shw n).size = (Lib.itoa n).length := by show (Lib.itoa n).toArray.size = _; simp
theorem shw_le (n : Int) (h0 : -9223372036854775808 ≤ n) (h1 : n ≤ 9223372036854775807) : (shw n).size ≤ maxLen := by
  rw [shw_size]; have := Lib.itoa_length_le n h0 h1; unfold maxLen; omega
theorem show_shw (x : Int) (w : World) (h0 : -9223372036854775808 ≤ x) (h1 : x ≤ 9223372036854775807) (ht : Pow10 w) :
    Calls Tryd.prog 14 #[.int .i64 x] w fun e w' => e = .returned (.string (shw x)) ∧ Below w.heap.size w w' := show_any x w h0 h1 ht
theorem rshow_shw (x : Int) (w : World) (h0 : -9223372036854775808 ≤ x) (h1 : x ≤ 9223372036854775807) :
    Calls Tryd.prog 15 #[.int .i64 x] w fun e w' => e = .returned (.string (shw x)) ∧ Below w.heap.size w w' := rshow_any x w h0 h1
end Go.Proofs.YtnpmipmdffbpdaaDoor
