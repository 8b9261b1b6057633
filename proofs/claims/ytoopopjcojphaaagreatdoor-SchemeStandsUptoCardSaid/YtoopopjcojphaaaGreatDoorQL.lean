import Derived.Test.YtoopopjcojphaaaGreatDoorQG
import Derived.Test.YtoopopjcojphaaaGreatDoorQK
import Derived.Test.YtoopopjcojphaaaGreatDoorQI
/-
  CONTRACTS OF THE TEXTS OF VARIABLES: show's tyvar, scheme's freeName, the reference's Var.
-/
namespace Go.Proofs.YtoopopjcojphaaaGreatDoor
open Go.ChangeShapes Go.WideShapes Go.ChangeAt Go.RowKit
set_option linter.unusedVariables false
def abcB : ByteArray := ⟨#[97, 98, 99, 100, 101, 102, 103, 104, 105, 106, 107, 108, 109, 110, 111, 112, 113, 114, 115, 116, 117, 118, 119, 120, 121, 122]⟩
theorem abc_at : ∀ r, r < 26 → abcB.extract r (r + 1) = ⟨#[UInt8.ofNat (97 + r)]⟩ := by decide
theorem varTx_len (n : Int) (h0 : 0 ≤ n) (h1 : n ≤ 9223372036854775807) : (varTx n).length ≤ 30 := by
  unfold varTx
  split
  · have := Lib.itoa_length_le (n / 26) (by omega) (by omega)
    simp only [List.length_cons]; omega
  · simp
theorem str1 (c : UInt8) (n : Nat) (hn : n < 26) : (⟨#[c]⟩ : ByteArray) ++ abcB.extract n (n + 1) = ⟨#[c, UInt8.ofNat (97 + n)]⟩ := by rw [abc_at n hn]; rfl
theorem str_eq {a b : ByteArray} (h : a.data.toList = b.data.toList) : a = b := by
  cases a; cases b; congr 1; exact Array.toList_inj.1 h
set_option maxRecDepth 100000 in
set_option maxHeartbeats 4000000 in
theorem tyvar_any {w : World} {n : Int} (h0 : 0 ≤ n) (h1 : n ≤ 9223372036854775807) (ht : Nu.Pow10 w) : Calls Tryz.prog 90 #[.int .i64 n] w fun e w' => e = .returned (.string ⟨(39 :: varTx n).toArray⟩) ∧ Below w.heap.size w w' := by
  have HS := Lib.hid (Nu.show_shw (n / 26) w (by omega) (by omega) ht)
  have habc := str1 39 (n % 26).toNat (by omega)
  rw [show (n % 26).toNat + 1 = (n % 26 + 1).toNat by omega] at habc
  have hm : n.toNat % 26 = (n % 26).toNat := by omega
  unfold abcB at habc
  have HA := Lib.hid habc
  clear ht habc
  by_cases hn : n < 26
  · have HR : Hid (⟨(39 :: varTx n).toArray⟩ = (⟨#[39, UInt8.ofNat (97 + (n % 26).toNat)]⟩ : ByteArray)) := Lib.hid (by unfold varTx; rw [if_neg (by omega), hm])
    clear hm
    go_enter Tryz.func90, Tryz.ntmps90
    go_wp2
    go_ret
    exact ⟨by rw [HR.out, ← HA.out]; rfl, Below.refl _ _⟩
  · have HR : Hid (⟨(39 :: varTx n).toArray⟩ = (⟨#[39, UInt8.ofNat (97 + (n % 26).toNat)]⟩ : ByteArray) ++ Nu.shw (n / 26)) := Lib.hid (str_eq (by unfold varTx Nu.shw; rw [if_pos (by omega), hm]; simp))
    have hsz := Nu.shw_le (n / 26) (by omega) (by omega)
    have hs2 := Nu.shw_size (n / 26)
    have hs3 := Lib.itoa_length_le (n / 26) (by omega) (by omega)
    clear hm
    go_enter Tryz.func90, Tryz.ntmps90
    go_wp2_with fail
    refine HS.out.mono ?_
    rintro e w1 ⟨rfl, hb1⟩
    have HB := Lib.hid hb1
    clear hb1
    go_wp2
    go_ret
    exact ⟨by rw [HR.out, ← HA.out]; rfl, HB.out⟩
set_option maxRecDepth 100000 in
theorem enc_at : ∀ r : Nat, r < 26 → Utf8.encode (97 + (r : Int)) = ⟨#[UInt8.ofNat (97 + r)]⟩ := by decide +kernel
theorem enc26 (n : Int) (h0 : 0 ≤ n) : Utf8.encode (97 + n % 26) = ⟨#[UInt8.ofNat (97 + n.toNat % 26)]⟩ := by
  have := enc_at (n.toNat % 26) (by omega)
  rw [← this, show ((n.toNat % 26 : Nat) : Int) = n % 26 by omega]
set_option maxRecDepth 100000 in
set_option maxHeartbeats 4000000 in
theorem freeName_any {w : World} {n : Int} (h0 : 0 ≤ n) (h1 : n ≤ 9223372036854775807) (ht : Nu.Pow10 w) : Calls Tryz.prog 38 #[.int .i64 n] w fun e w' => e = .returned (.string (freeN n)) ∧ Below w.heap.size w w' := by
  have HS := Lib.hid (Nu.show_shw (n / 26) w (by omega) (by omega) ht)
  have he := enc26 n h0
  clear ht
  by_cases hn : n < 26
  · have HR : Hid (freeN n = (⟨#[95]⟩ : ByteArray) ++ Utf8.encode (97 + n % 26)) := Lib.hid (str_eq (by unfold freeN varTx; rw [he, if_neg (by omega)]; simp))
    have hs4 : (Utf8.encode (97 + n % 26)).size = 1 := by rw [he]; rfl
    clear he
    go_enter Tryz.func38, Tryz.ntmps38
    go_wp2
    go_ret
    exact ⟨by rw [HR.out]; rfl, Below.refl _ _⟩
  · have HR : Hid (freeN n = (⟨#[95]⟩ : ByteArray) ++ Utf8.encode (97 + n % 26) ++ Nu.shw (n / 26)) := Lib.hid (str_eq (by unfold freeN varTx Nu.shw; rw [he, if_pos (by omega)]; simp))
    have hsz := Nu.shw_le (n / 26) (by omega) (by omega)
    have hs2 := Nu.shw_size (n / 26)
    have hs3 := Lib.itoa_length_le (n / 26) (by omega) (by omega)
    have hs4 : (Utf8.encode (97 + n % 26)).size = 1 := by rw [he]; rfl
    clear he
    go_enter Tryz.func38, Tryz.ntmps38
    go_wp2_with fail
    refine HS.out.mono ?_
    rintro e w1 ⟨rfl, hb1⟩
    have HB := Lib.hid hb1
    clear hb1
    go_wp2
    go_ret
    exact ⟨by rw [HR.out]; rfl, HB.out⟩
set_option maxRecDepth 100000 in
set_option maxHeartbeats 4000000 in
theorem rvar_any {w : World} {n : Int} (h0 : 0 ≤ n) (h1 : n ≤ 9223372036854775807) : Calls Tryz.prog 67 #[.int .i64 n] w fun e w' => e = .returned (.string ⟨(varTx n).toArray⟩) ∧ Below w.heap.size w w' := by
  have HS := Lib.hid (fun W => Nu.rshow_shw (n / 26) W (by omega) (by omega))
  have hm : n.toNat % 26 = (n % 26).toNat := by omega
  have hm2 : (97 + n % 26).toNat = 97 + (n % 26).toNat := by omega
  have cv := Nu.conv_one w (97 + n % 26)
  have hbw : Below w.heap.size w (w.alloc (.cells #[.int .u8 (97 + n % 26)] 5)) := below_new _ _
  have HB0 := Lib.hid hbw
  clear hbw
  by_cases hn : n < 26
  · have h25 : ¬ 25 < n := by omega
    have HR : Hid (⟨(varTx n).toArray⟩ = (⟨#[UInt8.ofNat (97 + n % 26).toNat]⟩ : ByteArray)) := Lib.hid (by unfold varTx; rw [if_neg (by omega), hm, hm2])
    clear hm hm2
    go_enter Tryz.func67, Tryz.ntmps67
    go_wp2
    go_ret
    exact ⟨by rw [HR.out]; rfl, HB0.out⟩
  · have h25 : 25 < n := by omega
    have HR : Hid (⟨(varTx n).toArray⟩ = (⟨#[UInt8.ofNat (97 + n % 26).toNat]⟩ : ByteArray) ++ Nu.shw (n / 26)) := Lib.hid (str_eq (by unfold varTx Nu.shw; rw [if_pos (by omega), hm, hm2]; simp))
    have hsz := Nu.shw_le (n / 26) (by omega) (by omega)
    have hs2 := Nu.shw_size (n / 26)
    have hs3 := Lib.itoa_length_le (n / 26) (by omega) (by omega)
    clear hm hm2
    go_enter Tryz.func67, Tryz.ntmps67
    go_wp2_with fail
    refine (HS.out _).mono ?_
    rintro e w1 ⟨rfl, hb1⟩
    have HB := Lib.hid (below_then HB0.out hb1)
    clear hb1
    go_wp2
    go_ret
    exact ⟨by rw [HR.out]; rfl, HB.out⟩
end Go.Proofs.YtoopopjcojphaaaGreatDoor
/-
  THE REFERENCE's TEXTS OF TYPES: level, at, text, Show; and how long a text is.
-/
namespace Go.Proofs.YtoopopjcojphaaaGreatDoor
open Go.ChangeShapes Go.WideShapes Go.ChangeAt Go.RowKit
set_option linter.unusedVariables false
theorem formed_con {k n : Int} {s : ByteArray} {l : List Tt} (h : formedT (.mk k n s l) = true) (hk : k ≠ 1) : k = 2 ∧ s.size ≤ 32 ∧ (s = ⟨#[45, 62]⟩ → l.length = 2) ∧ (s = ⟨#[42]⟩ → 2 ≤ l.length) := by
  have hg := (formed_node h).1
  have hc := good_con hg hk
  simp only [Tt.kind, Tt.num] at hc
  rw [good_n] at hg
  unfold goodN at hg
  rw [if_neg hk, if_neg (by rintro (h | h) <;> omega)] at hg
  split at hg
  · cases hg
  · rename_i hn
    refine ⟨hc.1, ?_, ?_, ?_⟩
    · by_cases h1 : s = ⟨#[114, 101, 102]⟩
      · subst h1; decide
      by_cases h2 : s = ⟨#[45, 62]⟩
      · subst h2; decide
      by_cases h3 : s = ⟨#[42]⟩
      · subst h3; decide
      have : lowB s = true := by
        cases e : lowB s with
        | true => rfl
        | false => exact absurd ⟨h1, h2, h3, e⟩ hn
      exact (low_parts this).2.1
    · intro e; subst e
      have : argsB ⟨#[45, 62]⟩ = (2, 2) := by decide
      rw [this] at hg
      simp at hg; omega
    · intro e; subst e
      have : (argsB ⟨#[42]⟩).1 = 2 := by decide
      rw [this] at hg
      simp at hg; omega
def sumL (ps : List (Nat × List UInt8)) : Nat := (ps.map fun p => p.2.length + 5).sum
theorem wrK_len (k : Nat) (p : Nat × List UInt8) : (wrK k p).length ≤ p.2.length + 2 := by
  unfold wrK wrapL; split <;> simp <;> omega
theorem join_len (sep : List UInt8) (k : Nat) (hs : sep.length ≤ 3) : ∀ ps, (joinW sep k ps).length ≤ sumL ps
  | [] => Nat.zero_le _
  | p :: r => by
    have h : ∀ r : List (Nat × List UInt8), ((r.map fun q => sep ++ wrK k q).flatten).length ≤ sumL r := by
      intro r
      induction r with
      | nil => exact Nat.zero_le _
      | cons q r ih =>
        have := wrK_len k q
        simp only [List.map_cons, List.flatten_cons, List.length_append, sumL, List.sum_cons] at ih ⊢
        omega
    have h1 := h r
    have h2 := wrK_len k p
    simp only [joinW, List.length_append, sumL, List.map_cons, List.sum_cons] at h1 ⊢
    omega
theorem conTx_len (s : ByteArray) (ps : List (Nat × List UInt8)) (hs : s.size ≤ 32) (ha : s = ⟨#[45, 62]⟩ → ps.length = 2) : (conTx s ps).length ≤ 40 + sumL ps := by
  have hd : s.data.toList.length ≤ 32 := hs
  unfold conTx
  split
  · omega
  split
  · rename_i h0 h1
    have h2 := ha h1
    match ps, h2 with
    | [a, b], _ =>
      have h3 := wrK_len 1 a
      have h4 := wrK_len 0 b
      simp [sumL] at *
      omega
  split
  · have := join_len [32, 42, 32] 2 (by decide) ps; omega
  split
  · rename_i h1
    match ps, h1 with
    | [a], _ =>
      have h3 := wrK_len 2 a
      simp [sumL] at *
      omega
  · have := join_len [44, 32] 0 (by decide) ps
    simp only [List.length_append, List.length_cons, List.length_nil]
    omega
mutual
theorem tx_len {vt : Int → List UInt8} (hv : ∀ n, 0 ≤ n → (vt n).length ≤ 40) : ∀ t : Tt, formedT t = true → (txT vt t).length + 5 ≤ 50 * (pre t).length
  | .mk k n s l, h => by
    by_cases hk : k = 1
    · obtain ⟨h0, _, _⟩ := formed_var h hk
      subst hk
      rw [tx_var]
      have := hv n h0
      simp only [pre, List.length_cons]; omega
    · obtain ⟨_, h1, h2, _⟩ := formed_con h hk
      rw [tx_con _ hk]
      have h3 := conTx_len s (l.map fun t => (lvN t.name, txT vt t)) h1 (fun e => by rw [List.length_map]; exact h2 e)
      have h4 := tx_lenL hv l (formed_node h).2
      simp only [pre, List.length_cons]; omega
theorem tx_lenL {vt : Int → List UInt8} (hv : ∀ n, 0 ≤ n → (vt n).length ≤ 40) : ∀ l : List Tt, (∀ t ∈ l, formedT t = true) → sumL (l.map fun t => (lvN t.name, txT vt t)) ≤ 50 * (preL l).length
  | [], _ => Nat.zero_le _
  | t :: r, h => by
    have h1 := tx_len hv t (h t (List.mem_cons_self ..))
    have h2 := tx_lenL hv r fun u hu => h u (List.mem_cons_of_mem _ hu)
    simp only [List.map_cons, sumL, List.sum_cons, preL, List.length_append] at h2 ⊢
    omega
end
set_option maxRecDepth 100000 in
set_option maxHeartbeats 4000000 in
theorem rlevel_val {w : World} {t : Tt} {x : Value} (h : Val w t x) (hf : formedT t = true) : Calls Tryz.prog 82 #[x] w fun e w' => e = .returned (.int .i64 (lvN t.name : Nat)) ∧ Below w.heap.size w w' := by
  obtain ⟨A, c, rfl, _⟩ := h
  obtain ⟨k, n, s, l⟩ := t
  simp only [Tt.kind, Tt.num, Tt.name, Tt.args]
  have HBN := Lib.hid (below_new w (.cells #[.int .i64 k, .int .i64 n, .string s, .slice A l.length c] 25))
  by_cases hk : k = 1
  · have hs := (formed_var hf hk).2.1
    have q1 : (k == 2) = false := by subst hk; rfl
    have HR : Hid (lvN s = 2) := Lib.hid (by rw [hs]; rfl)
    clear hk hs
    rw [HR.out]
    go_enter Tryz.func82, Tryz.ntmps82
    go_wp2
    go_ret
    exact ⟨rfl, HBN.out⟩
  · have q1 : (k == 2) = true := by have := (formed_con hf hk).1; subst this; rfl
    clear hk
    by_cases h1 : s = ⟨#[45, 62]⟩
    · have HR : Hid (lvN s = 0) := Lib.hid (by unfold lvN; rw [if_pos h1])
      have q2 : s.toList = [45, 62] := (str_is s _).2 h1
      clear h1
      rw [HR.out]
      go_enter Tryz.func82, Tryz.ntmps82
      go_wp2
      go_ret
      exact ⟨rfl, HBN.out⟩
    · have q2 : (s.toList == [45, 62]) = false := by rw [beq_eq_false_iff_ne]; exact fun e => h1 ((str_is s _).1 e)
      by_cases h2 : s = ⟨#[42]⟩
      · have HR : Hid (lvN s = 1) := Lib.hid (by unfold lvN; rw [if_neg h1, if_pos h2])
        have q3 : s.toList = [42] := (str_is s _).2 h2
        clear h1 h2
        rw [HR.out]
        go_enter Tryz.func82, Tryz.ntmps82
        go_wp2
        go_ret
        exact ⟨rfl, HBN.out⟩
      · have HR : Hid (lvN s = 2) := Lib.hid (by unfold lvN; rw [if_neg h1, if_neg h2])
        have q3 : (s.toList == [42]) = false := by rw [beq_eq_false_iff_ne]; exact fun e => h2 ((str_is s _).1 e)
        clear h1 h2
        rw [HR.out]
        go_enter Tryz.func82, Tryz.ntmps82
        go_wp2
        go_ret
        exact ⟨rfl, HBN.out⟩
set_option maxRecDepth 100000 in
set_option maxHeartbeats 4000000 in
theorem rat_val {w : World} {t : Tt} {x : Value} {v : Int} (h : Val w t x) (hf : formedT t = true) (hv : 0 ≤ v ∧ v ≤ 256) (q : Nat) (hq : q ≤ 2) (hl : (txT (vtS v) t).length ≤ 1000000000)
    (hT : ∀ W x, Val W t x → Calls Tryz.prog 40 #[x, .int .i64 v] W fun e w' => e = .returned (.string ⟨(txT (vtS v) t).toArray⟩) ∧ Below W.heap.size W w') :
    Calls Tryz.prog 68 #[x, .int .i64 v, .int .i64 q] w fun e w' => e = .returned (.string ⟨(wrK q (lvN t.name, txT (vtS v) t)).toArray⟩) ∧ Below w.heap.size w w' := by
  have HV := Lib.hid h
  obtain ⟨A, c, rfl, _⟩ := h
  obtain ⟨k, n, s, l⟩ := t
  simp only [Tt.kind, Tt.num, Tt.name, Tt.args] at HV ⊢
  obtain ⟨w0, hw0⟩ : ∃ w0, w0 = w.alloc (.cells #[.int .i64 k, .int .i64 n, .string s, .slice A l.length c] 25) := ⟨_, rfl⟩
  have hb0 : Below w.heap.size w w0 := by rw [hw0]; exact below_new _ _
  have hg0 : w0.heap[w.heap.size]? = some (.cells #[.int .i64 k, .int .i64 n, .string s, .slice A l.length c] 25 (0, 0)) := by rw [hw0]; exact heap_alloc_new _ _
  have HV0 := Lib.hid (HV.out.on hb0)
  have HB0 := Lib.hid hb0
  have HG0 := Lib.hid hg0
  have HT := Lib.hid hT
  have HF := Lib.hid hf
  have HW := Lib.hid hw0
  obtain ⟨L, hL⟩ : ∃ L, L = txT (vtS v) (.mk k n s l) := ⟨_, rfl⟩
  rw [← hL] at HT hl ⊢
  have hsz : (⟨L.toArray⟩ : ByteArray).size = L.length := by show L.toArray.size = _; simp
  obtain ⟨S, hS⟩ : ∃ S : ByteArray, S = ⟨L.toArray⟩ := ⟨_, rfl⟩
  rw [← hS] at HT hsz
  have HS := Lib.hid hS
  have hwr : wrK q (lvN s, L) = if lvN s < q then [40] ++ L ++ [41] else L := by unfold wrK wrapL; by_cases h : lvN s < q <;> simp [h]
  have HWR := Lib.hid hwr
  clear hb0 hg0 hT hf hw0 hL hS hwr
  obtain ⟨lv, hlv⟩ : ∃ lv, lv = lvN s := ⟨_, rfl⟩
  have HLV := Lib.hid hlv
  rw [← hlv] at HWR ⊢
  clear hlv
  by_cases hlt : lv < q
  · have hlt' : (lv : Int) < q := by omega
    have HR : Hid ((⟨(wrK q (lv, L)).toArray⟩ : ByteArray) = (⟨#[40]⟩ : ByteArray) ++ S ++ ⟨#[41]⟩) := Lib.hid (by rw [HWR.out, if_pos hlt, HS.out]; exact str_eq (by simp))
    rw [HR.out]
    clear hlt
    go_enter Tryz.func68, Tryz.ntmps68
    go_wp2_with fail
    rw [← HW.out]
    refine (HT.out _ _ HV0.out).mono ?_
    rintro e w1 ⟨rfl, hb1⟩
    have HB1 := Lib.hid (below_then HB0.out hb1)
    have HG1 := Lib.hid (row_on HG0.out hb1)
    have HC1 := Lib.hid (rlevel_val (HV0.out.on hb1) HF.out)
    clear hb1
    go_wp2_with (refine wpList_load_row_yes (by kernel_rfl) 25 _ rfl w.heap.size rfl 25 _ (0, 0) _ HG1.out Tryz.underlying25 rfl (tySize _ _ _ _) ?_)
    refine HC1.out.mono ?_
    rintro e w2 ⟨he, hb2⟩
    rw [show (Tt.mk k n s l).name = s from rfl, ← HLV.out] at he
    subst he
    have HB2 := Lib.hid (below_then HB1.out hb2)
    clear hb2
    go_wp2
    go_ret
    exact ⟨rfl, HB2.out⟩
  · have hlt' : ¬ (lv : Int) < q := by omega
    have HR : Hid ((⟨(wrK q (lv, L)).toArray⟩ : ByteArray) = S) := Lib.hid (by rw [HWR.out, if_neg hlt, HS.out])
    rw [HR.out]
    clear hlt
    go_enter Tryz.func68, Tryz.ntmps68
    go_wp2_with fail
    rw [← HW.out]
    refine (HT.out _ _ HV0.out).mono ?_
    rintro e w1 ⟨rfl, hb1⟩
    have HB1 := Lib.hid (below_then HB0.out hb1)
    have HG1 := Lib.hid (row_on HG0.out hb1)
    have HC1 := Lib.hid (rlevel_val (HV0.out.on hb1) HF.out)
    clear hb1
    go_wp2_with (refine wpList_load_row_yes (by kernel_rfl) 25 _ rfl w.heap.size rfl 25 _ (0, 0) _ HG1.out Tryz.underlying25 rfl (tySize _ _ _ _) ?_)
    refine HC1.out.mono ?_
    rintro e w2 ⟨he, hb2⟩
    rw [show (Tt.mk k n s l).name = s from rfl, ← HLV.out] at he
    subst he
    have HB2 := Lib.hid (below_then HB1.out hb2)
    clear hb2
    go_wp2
    go_ret
    exact ⟨rfl, HB2.out⟩
end Go.Proofs.YtoopopjcojphaaaGreatDoor
/-
  THE REFERENCE's TEXTS OF TYPES, II: text, Show.
-/
namespace Go.Proofs.YtoopopjcojphaaaGreatDoor
open Go.ChangeShapes Go.WideShapes Go.ChangeAt Go.RowKit
set_option linter.unusedVariables false
def kidsT (v : Int) (l : List Tt) : List (Nat × List UInt8) := l.map fun t => (lvN t.name, txT (vtS v) t)
theorem kidsT_len (v : Int) (l : List Tt) : (kidsT v l).length = l.length := by simp [kidsT]
theorem kidsT_at {v : Int} {l : List Tt} {j : Nat} (hj : j < l.length) : (kidsT v l)[j]'(by rw [kidsT_len]; exact hj) = (lvN l[j].name, txT (vtS v) l[j]) := by simp [kidsT]
theorem join_take (sep : List UInt8) (q : Nat) (ps : List (Nat × List UInt8)) {j : Nat} (hj : j < ps.length) : joinW sep q (ps.take (j + 1)) = (if j = 0 then [] else joinW sep q (ps.take j) ++ sep) ++ wrK q ps[j] := by
  cases ps with
  | nil => exact absurd hj (Nat.not_lt_zero _)
  | cons p r =>
    cases j with
    | zero => simp [joinW]
    | succ j =>
      have hj' : j < r.length := by simpa using hj
      rw [if_neg (by omega)]
      simp only [List.take_succ_cons, joinW, List.getElem_cons_succ]
      rw [List.take_succ_eq_append_getElem hj']
      simp only [List.map_append, List.flatten_append, List.map_cons, List.map_nil, List.flatten_cons, List.flatten_nil, List.append_nil, List.append_assoc]
theorem sumL_take (ps : List (Nat × List UInt8)) (j : Nat) : sumL (ps.take j) ≤ sumL ps := by
  have : sumL ps = sumL (ps.take j) + sumL (ps.drop j) := by
    unfold sumL
    rw [← List.sum_append, ← List.map_append, List.take_append_drop]
  omega
theorem vtS_len {v n : Int} (hv : 0 ≤ v) (h0 : 0 ≤ n) (h1 : n ≤ 9223372036854775807) : (vtS v n).length ≤ 40 := by
  unfold vtS
  split
  · have := varTx_len n h0 h1; simp only [List.length_cons]; omega
  · have := varTx_len (n - v) (by omega) (by omega); simp only [List.length_cons]; omega
theorem kids_getD {v : Int} {l : List Tt} {j : Nat} (hj : j < l.length) : (kidsT v l).getD j (2, []) = (lvN l[j].name, txT (vtS v) l[j]) := by
  rw [List.getD_eq_getElem?_getD, List.getElem?_eq_getElem (by rw [kidsT_len]; exact hj), Option.getD_some, kidsT_at hj]
theorem mem_sumL : ∀ {ps : List (Nat × List UInt8)} {p : Nat × List UInt8}, p ∈ ps → p.2.length + 5 ≤ sumL ps
  | q :: r, p, h => by
    simp only [sumL, List.map_cons, List.sum_cons]
    rcases List.mem_cons.1 h with rfl | h
    · omega
    · have := mem_sumL h; unfold sumL at this; omega
/-- The text of a part; of the first parts. -/
def kt (v : Int) (l : List Tt) (q j : Nat) : ByteArray := ⟨(wrK q ((kidsT v l).getD j (2, []))).toArray⟩
def jt (v : Int) (l : List Tt) (sep : List UInt8) (q j : Nat) : ByteArray := ⟨(joinW sep q ((kidsT v l).take j)).toArray⟩
theorem kt_size {v : Int} {l : List Tt} {q j : Nat} (hj : j < l.length) : (kt v l q j).size ≤ sumL (kidsT v l) := by
  have h1 := wrK_len q ((kidsT v l).getD j (2, []))
  have h2 : (kidsT v l).getD j (2, []) ∈ kidsT v l := by
    rw [List.getD_eq_getElem?_getD, List.getElem?_eq_getElem (by rw [kidsT_len]; exact hj), Option.getD_some]; exact List.getElem_mem _
  have h3 := mem_sumL h2
  show (wrK q ((kidsT v l).getD j (2, []))).toArray.size ≤ _
  rw [List.size_toArray]; omega
theorem jt_size {v : Int} {l : List Tt} {sep : List UInt8} {q j : Nat} (hs : sep.length ≤ 3) : (jt v l sep q j).size ≤ sumL (kidsT v l) := by
  have h1 := join_len sep q hs ((kidsT v l).take j)
  have h2 := sumL_take (kidsT v l) j
  show (joinW sep q ((kidsT v l).take j)).toArray.size ≤ _
  rw [List.size_toArray]; omega
theorem jt_zero (v : Int) (l : List Tt) (sep : List UInt8) (q : Nat) : jt v l sep q 0 = ⟨#[]⟩ := by simp [jt, joinW]
theorem jt_all (v : Int) (l : List Tt) (sep : List UInt8) (q : Nat) : jt v l sep q l.length = ⟨(joinW sep q (kidsT v l)).toArray⟩ := by
  unfold jt; rw [List.take_of_length_le (by rw [kidsT_len]; exact Nat.le_refl _)]
theorem jt_first {v : Int} {l : List Tt} {sep : List UInt8} {q : Nat} (h : 0 < l.length) : jt v l sep q 1 = kt v l q 0 := by
  unfold jt kt
  rw [join_take sep q (kidsT v l) (j := 0) (by rw [kidsT_len]; exact h), if_pos rfl, List.nil_append, List.getD_eq_getElem?_getD, List.getElem?_eq_getElem (by rw [kidsT_len]; exact h), Option.getD_some]
theorem jt_next {v : Int} {l : List Tt} {sep : List UInt8} {q j : Nat} (h0 : j ≠ 0) (h : j < l.length) : jt v l sep q (j + 1) = jt v l sep q j ++ ⟨sep.toArray⟩ ++ kt v l q j := by
  unfold jt kt
  rw [join_take sep q (kidsT v l) (by rw [kidsT_len]; exact h), if_neg h0, List.getD_eq_getElem?_getD, List.getElem?_eq_getElem (by rw [kidsT_len]; exact h), Option.getD_some]
  exact str_eq (by simp)
theorem sum_kids {v : Int} : ∀ {l : List Tt}, (∀ t ∈ l, (txT (vtS v) t).length + 5 ≤ 50 * (pre t).length) → sumL (kidsT v l) ≤ 50 * (preL l).length
  | [], _ => Nat.zero_le _
  | t :: r, h => by
    have h1 := h t (List.mem_cons_self ..)
    have h2 := sum_kids (v := v) (l := r) fun u hu => h u (List.mem_cons_of_mem _ hu)
    simp only [kidsT, List.map_cons, sumL, List.sum_cons, preL, List.length_append] at h2 ⊢
    omega
theorem tx_len_val {v : Int} (hv0 : 0 ≤ v) : ∀ m t, (pre t).length ≤ m → formedT t = true → ∀ w x, Val w t x → (txT (vtS v) t).length + 5 ≤ 50 * (pre t).length := by
  intro m
  induction m with
  | zero => intro t hle; obtain ⟨k, n, s, l⟩ := t; simp [pre] at hle
  | succ m ih =>
    intro t hle hf w x h
    obtain ⟨A, c, rfl, hrd⟩ := h
    obtain ⟨k, n, s, l⟩ := t
    obtain ⟨A', c', hcs, hn, hl, hsn, hrows⟩ := TyR.open_ hrd
    simp only [Tt.kind, Tt.num, Tt.name, Tt.args] at hcs hn hl hsn hrows
    simp only [List.cons.injEq, Value.slice.injEq, and_true, true_and] at hcs
    by_cases hk : k = 1
    · obtain ⟨h0, _, _⟩ := formed_var hf hk
      subst hk
      rw [tx_var]
      have := vtS_len (v := v) hv0 h0 hn.2
      simp only [pre, List.length_cons]; omega
    · obtain ⟨_, h1, h2, _⟩ := formed_con hf hk
      rw [tx_con _ hk]
      have h3 := conTx_len s (l.map fun t => (lvN t.name, txT (vtS v) t)) h1 (fun e => by rw [List.length_map]; exact h2 e)
      have h4 := sum_kids (v := v) (l := l) fun t ht => by
        obtain ⟨i, hi, rfl⟩ := List.mem_iff_getElem.1 ht
        obtain ⟨b, o, k2, n2, s2, m2, A2, c2, hx, _, _, _, hv⟩ := rows_val hrows hi
        have hf2 := (formed_node hf).2 _ ht
        have hp : (pre l[i]).length ≤ m := by
          have := preL_len_le hi
          simp only [pre, List.length_cons] at hle
          omega
        rw [hx] at hf2 hp ⊢
        exact ih _ hp hf2 w _ hv
      unfold kidsT at h4
      simp only [pre, List.length_cons]; omega
set_option maxRecDepth 100000 in
set_option maxHeartbeats 16000000 in
theorem rtext_any {v : Int} (hv0 : 0 ≤ v) (hv1 : v ≤ 256) : ∀ m, m ≤ 1048576 → ∀ t, (pre t).length ≤ m → formedT t = true → ∀ w x, Val w t x →
    Calls Tryz.prog 40 #[x, .int .i64 v] w fun e w' => e = .returned (.string ⟨(txT (vtS v) t).toArray⟩) ∧ Below w.heap.size w w' := by
  intro m
  induction m with
  | zero => intro _ t hle; obtain ⟨k, n, s, l⟩ := t; simp [pre] at hle
  | succ m ih =>
    intro hm t hle hf w x h
    have HV := Lib.hid h
    obtain ⟨A, c, rfl, hrd⟩ := h
    obtain ⟨k, n, s, l⟩ := t
    obtain ⟨A', c', hcs, hn, hl, hsn, hrows⟩ := TyR.open_ hrd
    simp only [Tt.kind, Tt.num, Tt.name, Tt.args] at HV hcs hn hl hsn hrows ⊢
    simp only [List.cons.injEq, Value.slice.injEq, and_true, true_and] at hcs
    obtain ⟨rfl, rfl⟩ := hcs
    have hpre : (preL l).length ≤ m := by simp only [pre, List.length_cons] at hle; omega
    obtain ⟨w0, hw0⟩ : ∃ w0, w0 = w.alloc (.cells #[.int .i64 k, .int .i64 n, .string s, .slice A l.length c] 25) := ⟨_, rfl⟩
    have hb0 : Below w.heap.size w w0 := by rw [hw0]; exact below_new _ _
    have hg0 : w0.heap[w.heap.size]? = some (.cells #[.int .i64 k, .int .i64 n, .string s, .slice A l.length c] 25 (0, 0)) := by rw [hw0]; exact heap_alloc_new _ _
    have HB0 := Lib.hid hb0
    have HG0 := Lib.hid hg0
    have HR0 := Lib.hid (Rows.on hrows hb0)
    have HW := Lib.hid hw0
    have HF := Lib.hid hf
    have HIH := Lib.hid ih
    have hlt0 : w.heap.size < w0.heap.size := lt_of_cells hg0
    have HX : Hid (∀ W, Below w0.heap.size w0 W → W.cell? ⟨w.heap.size, 0, none⟩ = some (.int .i64 k) ∧ W.cell? ⟨w.heap.size, 1, none⟩ = some (.int .i64 n) ∧ W.cell? ⟨w.heap.size, 2, none⟩ = some (.string s) ∧ W.cell? ⟨w.heap.size, 3, none⟩ = some (.slice A l.length c)) := Lib.hid fun W h => by
      have hr := row_on HG0.out h
      refine ⟨?_, ?_, ?_, ?_⟩
      · rw [cell_of_row W _ 0 _ _ _ hr]; rfl
      · rw [cell_of_row W _ 1 _ _ _ hr]; rfl
      · rw [cell_of_row W _ 2 _ _ _ hr]; rfl
      · rw [cell_of_row W _ 3 _ _ _ hr]; rfl
    have HBW : Hid (∀ W, Below w0.heap.size w0 W → Below w.heap.size w W) := Lib.hid fun W h => below_then HB0.out h
    have HLT := Lib.hid (tx_len_val hv0 _ _ (Nat.le_refl _) hf _ _ HV.out)
    have hkids : ∀ (j : Nat) (hj : j < l.length), formedT l[j] = true ∧ (pre l[j]).length ≤ m := fun j hj => ⟨(formed_node hf).2 _ (List.getElem_mem hj), by have := preL_len_le hj; omega⟩
    have HKID : Hid (∀ (j : Nat) (hj : j < l.length), ∃ b o k2 n2 s2 m2 A2 c2, A = some ⟨b, o, none⟩ ∧ ∀ W, Below w0.heap.size w0 W → W.rangeAt b (o + j * 4) [.int .i64 k2, .int .i64 n2, .string s2, .slice A2 m2 c2] ∧
        ∀ q : Nat, q ≤ 2 → Calls Tryz.prog 68 #[.agg #[.int .i64 k2, .int .i64 n2, .string s2, .slice A2 m2 c2], .int .i64 v, .int .i64 q] W fun e w' => e = .returned (.string (kt v l q j)) ∧ Below W.heap.size W w') := Lib.hid fun j hj => by
      obtain ⟨b, o, k2, n2, s2, m2, A2, c2, hx, hA, hbl, hr, hv⟩ := rows_val HR0.out hj
      obtain ⟨hf2, hp2⟩ := hkids j hj
      refine ⟨b, o, k2, n2, s2, _, A2, c2, hA, fun W hW => ⟨range_same hr (Same.lt hW) hbl, fun q hq => ?_⟩⟩
      unfold kt
      rw [kids_getD hj]
      rw [hx] at hf2 hp2 ⊢
      have hlen := tx_len_val (v := v) hv0 _ _ (Nat.le_refl _) hf2 _ _ hv
      exact rat_val (hv.on hW) hf2 ⟨hv0, hv1⟩ q hq (by omega) fun W x hx => HIH.out (by omega) _ hp2 hf2 W x hx
    have HSUM : Hid (sumL (kidsT v l) ≤ 60000000) := Lib.hid (by
      have := sum_kids (v := v) (l := l) fun t ht => by
        obtain ⟨i, hi, rfl⟩ := List.mem_iff_getElem.1 ht
        obtain ⟨b, o, k2, n2, s2, m2, A2, c2, hx, _, _, _, hv⟩ := rows_val hrows hi
        obtain ⟨hf2, _⟩ := hkids i hi
        rw [hx] at hf2 ⊢
        exact tx_len_val hv0 _ _ (Nat.le_refl _) hf2 _ _ hv
      omega)
    clear hb0 hg0 hw0 hrows hrd hf ih hkids
    by_cases hk : k = 1
    · have hn0 := (formed_var HF.out hk).1
      have e1 : (k == 1) = true := by simpa using hk
      have HK := Lib.hid hk
      clear hk
      by_cases hnv : n < v
      · obtain ⟨V, hV⟩ : ∃ V : ByteArray, V = ⟨(varTx n).toArray⟩ := ⟨_, rfl⟩
        have HR : Hid ((⟨(txT (vtS v) (.mk k n s l)).toArray⟩ : ByteArray) = (⟨#[39]⟩ : ByteArray) ++ V) := Lib.hid (by
          have := HK.out; subst this; rw [tx_var, hV]; unfold vtS; rw [if_pos hnv]; exact str_eq (by simp))
        rw [HR.out]
        have HC : Hid (∀ W, Calls Tryz.prog 67 #[.int .i64 n] W fun e w' => e = .returned (.string V) ∧ Below W.heap.size W w') := Lib.hid (fun W => by rw [hV]; exact rvar_any (w := W) (n := n) hn0 hn.2)
        have hsz : V.size ≤ 30 := by rw [hV]; show (varTx n).toArray.size ≤ 30; simpa using varTx_len n hn0 hn.2
        clear hV
        go_enter Tryz.func40, Tryz.ntmps40
        go_wp2_with fail
        refine (HC.out _).mono ?_
        rintro e w1 ⟨rfl, hb1⟩
        have HB1 := Lib.hid hb1
        clear hb1
        go_wp2
        go_ret
        exact ⟨rfl, below_then (below_new _ _) HB1.out⟩
      · obtain ⟨V, hV⟩ : ∃ V : ByteArray, V = ⟨(varTx (n - v)).toArray⟩ := ⟨_, rfl⟩
        have HR : Hid ((⟨(txT (vtS v) (.mk k n s l)).toArray⟩ : ByteArray) = (⟨#[95]⟩ : ByteArray) ++ V) := Lib.hid (by
          have := HK.out; subst this; rw [tx_var, hV]; unfold vtS; rw [if_neg hnv]; exact str_eq (by simp))
        rw [HR.out]
        have HC : Hid (∀ W, Calls Tryz.prog 67 #[.int .i64 (n - v)] W fun e w' => e = .returned (.string V) ∧ Below W.heap.size W w') := Lib.hid (fun W => by rw [hV]; exact rvar_any (w := W) (n := (n - v)) (by omega) (by omega))
        have hsz : V.size ≤ 30 := by rw [hV]; show (varTx (n - v)).toArray.size ≤ 30; simpa using varTx_len (n - v) (by omega) (by omega)
        clear hV
        have hw : IntKind.i64.wrap (n - v) = n - v := by rw [IntKind.wrap_i64]; omega
        go_enter Tryz.func40, Tryz.ntmps40
        go_wp2_with fail
        try rw [hw]
        refine (HC.out _).mono ?_
        rintro e w1 ⟨rfl, hb1⟩
        have HB1 := Lib.hid hb1
        clear hb1
        go_wp2
        go_ret
        exact ⟨rfl, below_then (below_new _ _) HB1.out⟩
    · obtain ⟨hk2, hs32, hsa, hss⟩ := formed_con HF.out hk
      have e1 : (k == 1) = false := by simpa using hk
      have HTX : Hid (txT (vtS v) (.mk k n s l) = conTx s (kidsT v l)) := Lib.hid (by rw [tx_con _ hk]; rfl)
      have HK := Lib.hid hk
      clear hk hk2
      by_cases hl0 : l.length = 0
      · have HR : Hid ((⟨(txT (vtS v) (.mk k n s l)).toArray⟩ : ByteArray) = s) := Lib.hid (by
          rw [HTX.out]; unfold conTx; rw [if_pos (List.eq_nil_of_length_eq_zero (by rw [kidsT_len]; exact hl0))])
        rw [HR.out]
        go_enter Tryz.func40, Tryz.ntmps40
        go_wp2
        go_ret
        exact ⟨rfl, below_new _ _⟩
      have hl0' : ((l.length : Int) == 0) = false := by rw [beq_eq_false_iff_ne]; omega
      by_cases ha : s = ⟨#[45, 62]⟩
      · have h2 := hsa ha
        have q2 : s.toList = [45, 62] := (str_is s _).2 ha
        obtain ⟨b, o, k3, n3, s3, m3, A3, c3, hA, hK0⟩ := HKID.out 0 (by omega)
        obtain ⟨b', o', k4, n4, s4, m4, A4, c4, hA', hK1⟩ := HKID.out 1 (by omega)
        subst hA
        obtain ⟨rfl, rfl⟩ : b = b' ∧ o = o' := by simpa using hA'
        have HK3 := Lib.hid hK0
        have HK4 := Lib.hid hK1
        have hz3 := kt_size (v := v) (l := l) (q := 1) (j := 0) (by omega)
        have hz4 := kt_size (v := v) (l := l) (q := 0) (j := 1) (by omega)
        have hsum := HSUM.out
        have HR : Hid ((⟨(txT (vtS v) (.mk k n s l)).toArray⟩ : ByteArray) = kt v l 1 0 ++ ⟨#[32, 45, 62, 32]⟩ ++ kt v l 0 1) := Lib.hid (by
          rw [HTX.out]; unfold conTx kt; rw [if_neg (fun e => by have := kidsT_len v l; rw [e] at this; simp at this; omega), if_pos ha]; exact str_eq (by simp))
        rw [HR.out]
        have hp0 : 0 < l.length := by omega
        have hp1 : (1 : Int) < (l.length : Int) := by omega
        have hs5 : ¬ 9223372036854775807 < (kt v l 1 0).size + 4 := by omega
        have hs6 : ¬ 9223372036854775807 < (kt v l 1 0).size + 4 + (kt v l 0 1).size := by omega
        clear hA' hK0 hK1 ha h2 hsa hss
        go_enter Tryz.func40, Tryz.ntmps40
        go_upto_region 9 with fail
        rw [← HW.out]
        refine wp_region_K (fun w' => Below w0.heap.size w0 w') (fun j => true) (by kernel_rfl) ?_
        refine wpK_take0 (v := ?_) (a' := ?_) 0 rfl (by kernel_rfl) (by kernel_rfl) (by kernel_rfl) (by kernel_rfl) (fun _ _ _ h => h) ?_ ?_ ?_
        rotate_left 2
        · refine .inl ⟨by kernel_rfl, ?_⟩; intro wS hS; clear hS; go_simp; with_reducible rfl
        · go_simp; with_reducible rfl
        refine wpK_take (v := ?_) (a' := ?_) 1 rfl (by kernel_rfl) (by kernel_rfl) (by kernel_rfl) (by kernel_rfl) (by kernel_rfl) (fun _ _ _ h => h) (below_drew1 (Below.refl _ _)) ?_ ?_ ?_
        rotate_left 2
        · refine .inl ⟨by kernel_rfl, ?_⟩; intro wS hS; have q3 := (HX.out _ hS).2.2.2; go_simp; with_reducible rfl
        · go_simp; with_reducible rfl
        refine wpK_take0 (v := ?_) (a' := ?_) 2 rfl (by kernel_rfl) (by kernel_rfl) (by kernel_rfl) (by kernel_rfl) (fun _ _ _ h => h) ?_ ?_ ?_
        rotate_left 2
        · refine .inl ⟨by kernel_rfl, ?_⟩; intro wS hS; clear hS; go_simp; with_reducible rfl
        · go_simp; with_reducible rfl
        refine wpK_take (v := (.agg #[.int .i64 k3, .int .i64 n3, .string s3, .slice A3 m3 c3])) (a' := ?_) 3 rfl (by kernel_rfl) (by kernel_rfl) (by kernel_rfl) (by kernel_rfl) (by kernel_rfl) (fun _ _ _ h => h) (below_drew1 (Below.refl _ _)) ?_ ?_ ?_
        rotate_left 1
        · exact yieldsIf_load_mid (by kernel_rfl) 25 (.tmp 42) rfl b (o) (by go_simp) _ _ (fun wS hS => by have := (HK3.out _ hS).1; simpa using this) Tryz.underlying25 rfl (tySize _ _ _ _)
        · go_simp; with_reducible rfl
        refine wpK_take0 (v := ?_) (a' := ?_) 4 rfl (by kernel_rfl) (by kernel_rfl) (by kernel_rfl) (by kernel_rfl) (fun _ _ _ h => h) ?_ ?_ ?_
        rotate_left 2
        · refine .inl ⟨by kernel_rfl, ?_⟩; intro wS hS; clear hS; go_simp; with_reducible rfl
        · go_simp; with_reducible rfl
        refine wpK_take0 (v := ?_) (a' := ?_) 7 rfl (by kernel_rfl) (by kernel_rfl) (by kernel_rfl) (by kernel_rfl) (fun _ _ _ h => h) ?_ ?_ ?_
        rotate_left 2
        · refine .inl ⟨by kernel_rfl, ?_⟩; intro wS hS; clear hS; go_simp; with_reducible rfl
        · go_simp; with_reducible rfl
        refine wpK_take (v := ?_) (a' := ?_) 8 rfl (by kernel_rfl) (by kernel_rfl) (by kernel_rfl) (by kernel_rfl) (by kernel_rfl) (fun _ _ _ h => h) (below_drew1 (Below.refl _ _)) ?_ ?_ ?_
        rotate_left 2
        · refine .inl ⟨by kernel_rfl, ?_⟩; intro wS hS; have q3 := (HX.out _ hS).2.2.2; go_simp; with_reducible rfl
        · go_simp; with_reducible rfl
        refine wpK_take0 (v := ?_) (a' := ?_) 9 rfl (by kernel_rfl) (by kernel_rfl) (by kernel_rfl) (by kernel_rfl) (fun _ _ _ h => h) ?_ ?_ ?_
        rotate_left 2
        · refine .inl ⟨by kernel_rfl, ?_⟩; intro wS hS; clear hS; go_simp; with_reducible rfl
        · go_simp; with_reducible rfl
        refine wpK_take (v := (.agg #[.int .i64 k4, .int .i64 n4, .string s4, .slice A4 m4 c4])) (a' := ?_) 10 rfl (by kernel_rfl) (by kernel_rfl) (by kernel_rfl) (by kernel_rfl) (by kernel_rfl) (fun _ _ _ h => h) (below_drew1 (Below.refl _ _)) ?_ ?_ ?_
        rotate_left 1
        · exact yieldsIf_load_mid (by kernel_rfl) 25 (.tmp 49) rfl b (o + 4) (by go_simp) _ _ (fun wS hS => by have := (HK4.out _ hS).1; simpa using this) Tryz.underlying25 rfl (tySize _ _ _ _)
        · go_simp; with_reducible rfl
        refine wpK_take0 (v := ?_) (a' := ?_) 11 rfl (by kernel_rfl) (by kernel_rfl) (by kernel_rfl) (by kernel_rfl) (fun _ _ _ h => h) ?_ ?_ ?_
        rotate_left 2
        · refine .inl ⟨by kernel_rfl, ?_⟩; intro wS hS; clear hS; go_simp; with_reducible rfl
        · go_simp; with_reducible rfl
        refine wpK_one 5 rfl (by kernel_rfl) (fun K hK => ?_)
        have HKK := Lib.hid hK
        clear hK
        go_wp2_with fail
        refine ((HK3.out _ (by first | exact Below.refl _ _ | exact below_drew1 (Below.refl _ _))).2 1 (by omega)).mono ?_
        rintro e w1 ⟨rfl, hb1⟩
        have HB1 := Lib.hid ((by first | exact hb1 | exact below_then (below_drew1 (Below.refl _ _)) hb1 : Below w0.heap.size w0 w1))
        clear hb1
        go_wp2
        refine HKK.out _ _ (fun _ _ => HB1.out) ?_
        clear HKK
        refine wpK_take0 (v := ?_) (a' := ?_) 6 rfl (by kernel_rfl) (by kernel_rfl) (by kernel_rfl) (by kernel_rfl) (fun _ _ _ h => h) ?_ ?_ ?_
        rotate_left 2
        · refine .inl ⟨by kernel_rfl, ?_⟩; intro wS hS; clear hS; go_simp; with_reducible rfl
        · go_simp; with_reducible rfl
        refine wpK_one 12 rfl (by kernel_rfl) (fun K hK => ?_)
        have HKK := Lib.hid hK
        clear hK
        go_wp2_with fail
        refine ((HK4.out _ (by first | exact HB1.out | exact below_drew1 HB1.out)).2 0 (by omega)).mono ?_
        rintro e w2 ⟨rfl, hb1⟩
        have HB2 := Lib.hid ((by first | exact below_then HB1.out hb1 | exact below_then (below_drew1 HB1.out) hb1 : Below w0.heap.size w0 w2))
        clear hb1
        go_wp2
        refine HKK.out _ _ (fun _ _ => HB2.out) ?_
        clear HKK
        refine wpK_take0 (v := ?_) (a' := ?_) 13 rfl (by kernel_rfl) (by kernel_rfl) (by kernel_rfl) (by kernel_rfl) (fun _ _ _ h => h) ?_ ?_ ?_
        rotate_left 2
        · refine .inl ⟨by kernel_rfl, ?_⟩; intro wS hS; clear hS; go_simp; with_reducible rfl
        · go_simp; with_reducible rfl
        refine wpK_take0 (v := ?_) (a' := ?_) 14 rfl (by kernel_rfl) (by kernel_rfl) (by kernel_rfl) (by kernel_rfl) (fun _ _ _ h => h) ?_ ?_ ?_
        rotate_left 2
        · refine .inl ⟨by kernel_rfl, ?_⟩; intro wS hS; clear hS; go_simp; with_reducible rfl
        · go_simp; with_reducible rfl
        refine wpK_end (by kernel_rfl) ?_ _
        go_wp2
        go_ret
        exact ⟨rfl, HBW.out _ (by first | exact HB2.out | exact below_drew1 HB2.out)⟩
      have q2 : (s.toList == [45, 62]) = false := by rw [beq_eq_false_iff_ne]; exact fun e => ha ((str_is s _).1 e)
      have hna : ¬ s = ⟨#[45, 62]⟩ := ha
      by_cases hst : s = ⟨#[42]⟩
      · have q3 : s.toList = [42] := (str_is s _).2 hst
        have HR : Hid ((⟨(txT (vtS v) (.mk k n s l)).toArray⟩ : ByteArray) = jt v l [32, 42, 32] 2 l.length) := Lib.hid (by
          rw [HTX.out, jt_all]; unfold conTx; rw [if_neg (fun e => by have := kidsT_len v l; rw [e] at this; simp at this; omega), if_neg hna, if_pos hst])
        rw [HR.out]
        have hsum := HSUM.out
        have HL0 := Lib.hid hl0
        clear ha hna hst hsa hss hl0
        go_enter Tryz.func40, Tryz.ntmps40
        go_upto_region 12 with fail
        rw [← HW.out]
        have q0 := (HX.out w0 (Below.refl _ _)).2.2.2
        go_wp2
        go_loopw [6, 74] (fun y z wr => ∃ j : Nat, j ≤ l.length ∧ y = .string (jt v l [32, 42, 32] 2 j) ∧ z = .int .i64 j ∧ Below w0.heap.size w0 wr) (fun _ z _ => l.length - (intOf z).toNat)
        case atStart => exact ⟨0, Nat.zero_le _, by rw [jt_zero], rfl, Below.refl _ _⟩
        case round =>
          obtain ⟨j, hj, rfl, rfl, hbw⟩ := hrel
          have HBR := Lib.hid hbw
          have hx := HX.out _ hbw
          have q5 : wr.cell? ⟨w.heap.size, 2, none⟩ = some (.string s) := hx.2.2.1
          have q6 := hx.2.2.2
          have hlr : w.heap.size < wr.heap.size := by have := hbw.size; omega
          clear hbw hx
          by_cases hlt : j < l.length
          · obtain ⟨b, o, k3, n3, s3, m3, A3, c3, hA, hK0⟩ := HKID.out j hlt
            have HA := Lib.hid hA
            rw [hA] at q6
            have HRR := Lib.hid (hK0 _ HBR.out).1
            have HKK := Lib.hid ((hK0 _ HBR.out).2 2 (by omega))
            clear hA hK0
            have hz := kt_size (v := v) (l := l) (q := 2) hlt
            have hz2 := jt_size (v := v) (l := l) (sep := [32, 42, 32]) (q := 2) (j := j) (by decide)
            by_cases hj0 : j = 0
            · have HN : Hid (jt v l [32, 42, 32] 2 1 = kt v l 2 j) := Lib.hid (by rw [hj0]; exact jt_first (by omega))
              have HJ0 := Lib.hid hj0
              have HZ : Hid (jt v l [32, 42, 32] 2 j = ⟨#[]⟩) := Lib.hid (by rw [hj0]; exact jt_zero _ _ _ _)
              have hjz : ¬ (0 : Int) < (j : Int) := by omega
              clear hj0
              go_wp2_with (refine wpList_load_mid rfl 25 _ rfl b (o + j * 4) rfl _ _ HRR.out Tryz.underlying25 rfl (tySize _ _ _ _) ?_)
              refine HKK.out.mono ?_
              rintro e w1 ⟨rfl, hb1⟩
              have HB1 := Lib.hid (below_then HBR.out hb1)
              clear hb1
              go_wp2
              go_roundw
              case rel => exact ⟨j + 1, by omega, by rw [HJ0.out, Nat.zero_add, HN.out, HJ0.out, jt_zero]; exact congrArg Value.string (str_eq (by simp)), by go_num, HB1.out⟩
              case measure => simp [intOf]; omega
            · have HN : Hid (jt v l [32, 42, 32] 2 (j + 1) = jt v l [32, 42, 32] 2 j ++ ⟨#[32, 42, 32]⟩ ++ kt v l 2 j) := Lib.hid (jt_next hj0 hlt)
              have hjz : (0 : Int) < (j : Int) := by omega
              clear hj0
              go_wp2_with (refine wpList_load_mid rfl 25 _ rfl b (o + j * 4) rfl _ _ HRR.out Tryz.underlying25 rfl (tySize _ _ _ _) ?_)
              refine HKK.out.mono ?_
              rintro e w1 ⟨rfl, hb1⟩
              have HB1 := Lib.hid (below_then HBR.out hb1)
              clear hb1
              go_wp2
              go_roundw
              case rel => exact ⟨j + 1, by omega, by rw [HN.out], by go_num, HB1.out⟩
              case measure => simp [intOf]; omega
          · obtain rfl : j = l.length := by omega
            have hz2 := jt_size (v := v) (l := l) (sep := [32, 42, 32]) (q := 2) (j := l.length) (by decide)
            go_wp2
            go_ret
            exact ⟨rfl, HBW.out _ HBR.out⟩
      have q3 : (s.toList == [42]) = false := by rw [beq_eq_false_iff_ne]; exact fun e => hst ((str_is s _).1 e)
      by_cases hl1 : l.length = 1
      · have hl1' : ((l.length : Int) == 1) = true := by rw [hl1]; rfl
        obtain ⟨b, o, k3, n3, s3, m3, A3, c3, hA, hK0⟩ := HKID.out 0 (by omega)
        subst hA
        have HK3 := Lib.hid hK0
        have hz3 := kt_size (v := v) (l := l) (q := 2) (j := 0) (by omega)
        have hsum := HSUM.out
        have HR : Hid ((⟨(txT (vtS v) (.mk k n s l)).toArray⟩ : ByteArray) = kt v l 2 0 ++ ⟨#[32]⟩ ++ s) := Lib.hid (by
          rw [HTX.out]; unfold conTx kt; rw [if_neg (fun e => by have := kidsT_len v l; rw [e] at this; simp at this; omega), if_neg hna, if_neg hst, if_pos (by rw [kidsT_len]; exact hl1)]; exact str_eq (by simp))
        rw [HR.out]
        have hp0 : 0 < l.length := by omega
        have hs5 : ¬ 9223372036854775807 < (kt v l 2 0).size + 1 := by omega
        have hs6 : ¬ 9223372036854775807 < (kt v l 2 0).size + 1 + s.size := by omega
        have HL1 := Lib.hid hl1
        clear hK0 ha hna hst hl1 hsa hss hl0
        go_enter Tryz.func40, Tryz.ntmps40
        go_upto_region 11 with fail
        rw [← HW.out]
        refine wp_region_K (fun w' => Below w0.heap.size w0 w') (fun j => true) (by kernel_rfl) ?_
        refine wpK_take0 (v := ?_) (a' := ?_) 0 rfl (by kernel_rfl) (by kernel_rfl) (by kernel_rfl) (by kernel_rfl) (fun _ _ _ h => h) ?_ ?_ ?_
        rotate_left 2
        · refine .inl ⟨by kernel_rfl, ?_⟩; intro wS hS; clear hS; go_simp; with_reducible rfl
        · go_simp; with_reducible rfl
        refine wpK_take (v := ?_) (a' := ?_) 1 rfl (by kernel_rfl) (by kernel_rfl) (by kernel_rfl) (by kernel_rfl) (by kernel_rfl) (fun _ _ _ h => h) (below_drew1 (Below.refl _ _)) ?_ ?_ ?_
        rotate_left 2
        · refine .inl ⟨by kernel_rfl, ?_⟩; intro wS hS; have q3 := (HX.out _ hS).2.2.2; have q4 := (HX.out _ hS).2.2.1; go_simp; with_reducible rfl
        · go_simp; with_reducible rfl
        refine wpK_take0 (v := ?_) (a' := ?_) 2 rfl (by kernel_rfl) (by kernel_rfl) (by kernel_rfl) (by kernel_rfl) (fun _ _ _ h => h) ?_ ?_ ?_
        rotate_left 2
        · refine .inl ⟨by kernel_rfl, ?_⟩; intro wS hS; clear hS; go_simp; with_reducible rfl
        · go_simp; with_reducible rfl
        refine wpK_take (v := (.agg #[.int .i64 k3, .int .i64 n3, .string s3, .slice A3 m3 c3])) (a' := ?_) 3 rfl (by kernel_rfl) (by kernel_rfl) (by kernel_rfl) (by kernel_rfl) (by kernel_rfl) (fun _ _ _ h => h) (below_drew1 (Below.refl _ _)) ?_ ?_ ?_
        rotate_left 1
        · exact yieldsIf_load_mid (by kernel_rfl) 25 (.tmp 63) rfl b (o) (by go_simp) _ _ (fun wS hS => by have := (HK3.out _ hS).1; simpa using this) Tryz.underlying25 rfl (tySize _ _ _ _)
        · go_simp; with_reducible rfl
        refine wpK_take0 (v := ?_) (a' := ?_) 4 rfl (by kernel_rfl) (by kernel_rfl) (by kernel_rfl) (by kernel_rfl) (fun _ _ _ h => h) ?_ ?_ ?_
        rotate_left 2
        · refine .inl ⟨by kernel_rfl, ?_⟩; intro wS hS; clear hS; go_simp; with_reducible rfl
        · go_simp; with_reducible rfl
        refine wpK_take0 (v := ?_) (a' := ?_) 7 rfl (by kernel_rfl) (by kernel_rfl) (by kernel_rfl) (by kernel_rfl) (fun _ _ _ h => h) ?_ ?_ ?_
        rotate_left 2
        · refine .inl ⟨by kernel_rfl, ?_⟩; intro wS hS; clear hS; go_simp; with_reducible rfl
        · go_simp; with_reducible rfl
        refine wpK_take (v := ?_) (a' := ?_) 8 rfl (by kernel_rfl) (by kernel_rfl) (by kernel_rfl) (by kernel_rfl) (by kernel_rfl) (fun _ _ _ h => h) (below_drew1 (Below.refl _ _)) ?_ ?_ ?_
        rotate_left 2
        · refine .inl ⟨by kernel_rfl, ?_⟩; intro wS hS; have q3 := (HX.out _ hS).2.2.2; have q4 := (HX.out _ hS).2.2.1; go_simp; with_reducible rfl
        · go_simp; with_reducible rfl
        refine wpK_one 5 rfl (by kernel_rfl) (fun K hK => ?_)
        have HKK := Lib.hid hK
        clear hK
        go_wp2_with fail
        refine ((HK3.out _ (by first | exact Below.refl _ _ | exact below_drew1 (Below.refl _ _))).2 2 (by omega)).mono ?_
        rintro e w1 ⟨rfl, hb1⟩
        have HB1 := Lib.hid ((by first | exact hb1 | exact below_then (below_drew1 (Below.refl _ _)) hb1 : Below w0.heap.size w0 w1))
        clear hb1
        go_wp2
        refine HKK.out _ _ (fun _ _ => HB1.out) ?_
        clear HKK
        refine wpK_take0 (v := ?_) (a' := ?_) 6 rfl (by kernel_rfl) (by kernel_rfl) (by kernel_rfl) (by kernel_rfl) (fun _ _ _ h => h) ?_ ?_ ?_
        rotate_left 2
        · refine .inl ⟨by kernel_rfl, ?_⟩; intro wS hS; clear hS; go_simp; with_reducible rfl
        · go_simp; with_reducible rfl
        refine wpK_take0 (v := ?_) (a' := ?_) 9 rfl (by kernel_rfl) (by kernel_rfl) (by kernel_rfl) (by kernel_rfl) (fun _ _ _ h => h) ?_ ?_ ?_
        rotate_left 2
        · refine .inl ⟨by kernel_rfl, ?_⟩; intro wS hS; clear hS; go_simp; with_reducible rfl
        · go_simp; with_reducible rfl
        refine wpK_take0 (v := ?_) (a' := ?_) 10 rfl (by kernel_rfl) (by kernel_rfl) (by kernel_rfl) (by kernel_rfl) (fun _ _ _ h => h) ?_ ?_ ?_
        rotate_left 2
        · refine .inl ⟨by kernel_rfl, ?_⟩; intro wS hS; clear hS; go_simp; with_reducible rfl
        · go_simp; with_reducible rfl
        refine wpK_end (by kernel_rfl) ?_ _
        go_wp2
        go_ret
        exact ⟨rfl, HBW.out _ (by first | exact HB1.out | exact below_drew1 HB1.out)⟩
      have hl1' : ((l.length : Int) == 1) = false := by rw [beq_eq_false_iff_ne]; omega
      have HR : Hid ((⟨(txT (vtS v) (.mk k n s l)).toArray⟩ : ByteArray) = (⟨#[40]⟩ : ByteArray) ++ jt v l [44, 32] 0 l.length ++ ⟨#[41, 32]⟩ ++ s) := Lib.hid (by
        rw [HTX.out, jt_all]; unfold conTx; rw [if_neg (fun e => by have := kidsT_len v l; rw [e] at this; simp at this; omega), if_neg hna, if_neg hst, if_neg (by rw [kidsT_len]; exact hl1)]; exact str_eq (by simp))
      rw [HR.out]
      clear hl1
      have hsum := HSUM.out
      have HL0 := Lib.hid hl0
      clear ha hna hst hsa hss hl0
      go_enter Tryz.func40, Tryz.ntmps40
      go_upto_region 12 with fail
      rw [← HW.out]
      have q0 := (HX.out w0 (Below.refl _ _)).2.2.2
      go_wp2
      go_loopw [6, 74] (fun y z wr => ∃ j : Nat, j ≤ l.length ∧ y = .string (jt v l [44, 32] 0 j) ∧ z = .int .i64 j ∧ Below w0.heap.size w0 wr) (fun _ z _ => l.length - (intOf z).toNat)
      case atStart => exact ⟨0, Nat.zero_le _, by rw [jt_zero], rfl, Below.refl _ _⟩
      case round =>
        obtain ⟨j, hj, rfl, rfl, hbw⟩ := hrel
        have HBR := Lib.hid hbw
        have hx := HX.out _ hbw
        have q5 : wr.cell? ⟨w.heap.size, 2, none⟩ = some (.string s) := hx.2.2.1
        have q6 := hx.2.2.2
        have hlr : w.heap.size < wr.heap.size := by have := hbw.size; omega
        clear hbw hx
        by_cases hlt : j < l.length
        · obtain ⟨b, o, k3, n3, s3, m3, A3, c3, hA, hK0⟩ := HKID.out j hlt
          have HA := Lib.hid hA
          rw [hA] at q6
          have HRR := Lib.hid (hK0 _ HBR.out).1
          have HKK := Lib.hid ((hK0 _ HBR.out).2 0 (by omega))
          clear hA hK0
          have hz := kt_size (v := v) (l := l) (q := 0) hlt
          have hz2 := jt_size (v := v) (l := l) (sep := [44, 32]) (q := 0) (j := j) (by decide)
          by_cases hj0 : j = 0
          · have HN : Hid (jt v l [44, 32] 0 1 = kt v l 0 j) := Lib.hid (by rw [hj0]; exact jt_first (by omega))
            have HJ0 := Lib.hid hj0
            have HZ : Hid (jt v l [44, 32] 0 j = ⟨#[]⟩) := Lib.hid (by rw [hj0]; exact jt_zero _ _ _ _)
            have hjz : ¬ (0 : Int) < (j : Int) := by omega
            clear hj0
            go_wp2_with (refine wpList_load_mid rfl 25 _ rfl b (o + j * 4) rfl _ _ HRR.out Tryz.underlying25 rfl (tySize _ _ _ _) ?_)
            refine HKK.out.mono ?_
            rintro e w1 ⟨rfl, hb1⟩
            have HB1 := Lib.hid (below_then HBR.out hb1)
            clear hb1
            go_wp2
            go_roundw
            case rel => exact ⟨j + 1, by omega, by rw [HJ0.out, Nat.zero_add, HN.out, HJ0.out, jt_zero]; exact congrArg Value.string (str_eq (by simp)), by go_num, HB1.out⟩
            case measure => simp [intOf]; omega
          · have HN : Hid (jt v l [44, 32] 0 (j + 1) = jt v l [44, 32] 0 j ++ ⟨#[44, 32]⟩ ++ kt v l 0 j) := Lib.hid (jt_next hj0 hlt)
            have hjz : (0 : Int) < (j : Int) := by omega
            clear hj0
            go_wp2_with (refine wpList_load_mid rfl 25 _ rfl b (o + j * 4) rfl _ _ HRR.out Tryz.underlying25 rfl (tySize _ _ _ _) ?_)
            refine HKK.out.mono ?_
            rintro e w1 ⟨rfl, hb1⟩
            have HB1 := Lib.hid (below_then HBR.out hb1)
            clear hb1
            go_wp2
            go_roundw
            case rel => exact ⟨j + 1, by omega, by rw [HN.out], by go_num, HB1.out⟩
            case measure => simp [intOf]; omega
        · obtain rfl : j = l.length := by omega
          have hz2 := jt_size (v := v) (l := l) (sep := [44, 32]) (q := 0) (j := l.length) (by decide)
          go_wp2
          go_ret
          exact ⟨rfl, HBW.out _ HBR.out⟩
end Go.Proofs.YtoopopjcojphaaaGreatDoor
