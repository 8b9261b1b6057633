/-
  CONTRACTS OF lex, IV: the token of a text.
-/
import Derived.Test.YtkogfdbmgdajdaaDoorLexC
namespace Go.Proofs.YtkogfdbmgdajdaaDoor
open Go.ChangeShapes Go.WideShapes Go.ChangeAt Go.RowKit
set_option linter.unusedVariables false
theorem kindOf_is (t : ByteArray) (h0 : 0 < t.size) (hs : t.size ≤ maxLen) (w : World) (hT : Tabs w) (x : Int) (hx : ((kindM t : Nat) : Int) = x) : Calls Tryd.prog 31 #[.string t] w fun e w' => e = .returned (.int .i64 x) ∧ w = w' := by
  subst hx; exact kindOf_any t h0 hs w hT
theorem numberOf_is (t : ByteArray) (hs : t.size ≤ maxLen) (hd : ∀ k, k < t.size → dg (bt t k) = true) (w : World) (x : Int) (hx : ((cap (vl t 0 t.size) : Nat) : Int) = x) : Calls Tryd.prog 32 #[.string t] w fun e w' => e = .returned (.int .i64 x) ∧ w = w' := by
  subst hx; exact numberOf_any t hs hd w
/-- What tokenOf returns. -/
def TokPost (t : ByteArray) (g : Bool) (w : World) (e : Ending) (w' : World) : Prop :=
  ∃ (K n : Int) (y : ByteArray) (k : Int), e = .returned (.tuple #[.agg #[.int .i64 K, .int .i64 0, .string y, .int .i64 n], .int .i64 k]) ∧ ((tokErr t g : Nat) : Int) = k ∧ (k = 0 → (#[.int .i64 K, .int .i64 0, .string y, .int .i64 n] : Array Value) = #[.int .i64 (kindM t : Nat), .int .i64 0, .string t, .int .i64 (tokN t : Nat)]) ∧ Below w.heap.size w w'
theorem tok_below (w : World) (o1 o2 : Obj) (w' : World) (h : Below w.heap.size ((w.alloc o1).alloc o2) w') : Below w.heap.size w w' := (((Below.refl _ _).alloc (Nat.le_refl _) _).alloc (by simp) _).trans h
theorem tok_two (w : World) (o1 o2 : Obj) : Below w.heap.size w ((w.alloc o1).alloc o2) := ((Below.refl _ _).alloc (Nat.le_refl _) _).alloc (by simp) _
theorem nonempty_of {t : ByteArray} (h0 : 0 < t.size) : t.toList.isEmpty = false := by
  rw [ByteArray.toList_eq]
  cases h : t.data.toList with
  | nil => have := size_toList t; rw [h] at this; simp at this; omega
  | cons => rfl
theorem trim_is (t : ByteArray) (y : ByteArray) (hy : mkS (Lib.trimPrefix t.data.toList [39]) = y) (w : World) : Calls Tryd.prog 33 #[.string t, .string ⟨#[39]⟩] w fun e w' => e = .returned (.string y) ∧ w = w' := by
  subst hy
  exact (Tryd.strings_TrimPrefix t _ w).mono fun e w' ⟨he, hw⟩ => ⟨he, hw.symm⟩
theorem trim_size (t : ByteArray) : (mkS (Lib.trimPrefix t.data.toList [39])).size = nameLen t := by
  rw [mkS_size]
  unfold Lib.trimPrefix nameLen
  have h := hasPrefix_pre (s := t) (a := 0) (Nat.zero_le _) [39]
  have e : t.extract 0 t.size = t := by
    apply ext_of_bt
    · rw [ext_size (Nat.le_refl _)]; rfl
    · intro k hk
      rw [ext_size (Nat.le_refl _)] at hk
      rw [bt_ext (Nat.le_refl _), if_pos hk, Nat.zero_add]
  rw [e] at h
  rw [h]
  have e2 : pre t 0 [39] = decide (bt t 0 = 39) := by
    show (decide (bt t 0 = 39) && true) = _
    rw [Bool.and_true]
  rw [e2]
  by_cases hb : bt t 0 = 39
  · rw [if_pos (by simp [hb]), if_pos hb, List.length_drop, size_toList]; rfl
  · rw [if_neg (by simp [hb]), if_neg hb, size_toList]

set_option maxHeartbeats 1000000 in
theorem tokenOf_empty (t : ByteArray) (g : Bool) (h0 : t.size = 0) (w : World) : Calls Tryd.prog 20 #[.string t, .bool g] w (TokPost t g w) := by
  have HR : Hid (((tokErr t g : Nat) : Int) = 11) := Lib.hid (by unfold tokErr; rw [if_pos h0]; rfl)
  have he : t.toList = [] := by rw [ByteArray.toList_eq]; exact List.eq_nil_of_length_eq_zero (by rw [size_toList, h0])
  clear h0
  go_enter Tryd.func20, Tryd.ntmps20
  go_wp2
  refine bodyPost_ret (v := .tuple #[.agg #[.int .i64 0, .int .i64 0, .string ⟨#[]⟩, .int .i64 0], .int .i64 11]) (by simp [results, Tryd.results20, go_sem]) rfl ⟨_, _, _, _, rfl, HR.out, (fun h => by cases h), ?_⟩
  exact (Below.refl _ _).alloc (Nat.le_refl _) _
theorem tokErr_num {t : ByteArray} {g : Bool} (h0 : 0 < t.size) (hk : kindM t = 1) : tokErr t g = if (1 < t.size ∧ bt t 0 = 48) ∨ 1073741824 < vl t 0 t.size ∨ (vl t 0 t.size = 1073741824 ∧ g = false) then 13 else 0 := by
  unfold tokErr; rw [if_neg (by omega), if_pos hk]
set_option maxHeartbeats 1000000 in
theorem tokenOf_lead (t : ByteArray) (g : Bool) (h0 : 0 < t.size) (hs : t.size ≤ maxLen) (w : World) (hT : Tabs w) (hk : kindM t = 1) (hd : ∀ k, k < t.size → dg (bt t k) = true) (h1 : 1 < t.size) (h2 : t[0].toNat = 48) : Calls Tryd.prog 20 #[.string t, .bool g] w (TokPost t g w) := by
  have he := nonempty_of h0
  have HT : Hid (∀ o, Tabs (w.alloc o)) := Lib.hid fun o => hT.on (below_new w o)
  clear hT
  have HK : Hid (((kindM t : Nat) : Int) = 1) := Lib.hid (by rw [hk]; rfl)
  have HD := Lib.hid hd
  have HS := Lib.hid hs
  have HR : Hid (((tokErr t g : Nat) : Int) = 13) := Lib.hid (by rw [tokErr_num h0 hk, if_pos (.inl ⟨h1, by rw [bt_in h0]; exact h2⟩)]; rfl)
  have h48 : ((t[0].toNat : Int) == 48) = true := by simp; omega
  have H1 : (1 : Int) < t.size := by omega
  obtain ⟨x, hx⟩ : ∃ x : Int, ((cap (vl t 0 t.size) : Nat) : Int) = x := ⟨_, rfl⟩
  have HX := Lib.hid hx
  clear hk hd h2 hx
  go_enter Tryd.func20, Tryd.ntmps20
  go_wp2_with (first | ((with_reducible refine (kindOf_is _ h0 hs _ (HT.out _) _ HK.out).mono ?_); rintro e w' ⟨rfl, rfl⟩) | ((with_reducible refine (numberOf_is _ hs HD.out _ _ HX.out).mono ?_); rintro e w' ⟨rfl, rfl⟩))
  exact bodyPost_ret (v := .tuple #[.agg #[.int .i64 0, .int .i64 0, .string ⟨#[]⟩, .int .i64 0], .int .i64 13]) (by simp [results, Tryd.results20, go_sem]) rfl ⟨_, _, _, _, rfl, HR.out, (fun h => by cases h), tok_two _ _ _⟩
set_option maxHeartbeats 1000000 in
theorem tokenOf_big_one (t : ByteArray) (g : Bool) (h0 : 0 < t.size) (hs : t.size ≤ maxLen) (w : World) (hT : Tabs w) (hk : kindM t = 1) (hd : ∀ k, k < t.size → dg (bt t k) = true) (h1 : t.size = 1) (h3 : 1073741824 < vl t 0 t.size) : Calls Tryd.prog 20 #[.string t, .bool g] w (TokPost t g w) := by
  have he := nonempty_of h0
  have HT : Hid (∀ o, Tabs (w.alloc o)) := Lib.hid fun o => hT.on (below_new w o)
  clear hT
  have HK : Hid (((kindM t : Nat) : Int) = 1) := Lib.hid (by rw [hk]; rfl)
  have HD := Lib.hid hd
  have HS := Lib.hid hs
  have HR : Hid (((tokErr t g : Nat) : Int) = 13) := Lib.hid (by rw [tokErr_num h0 hk, if_pos (.inr (.inl h3))]; rfl)
  have HX : Hid (((cap (vl t 0 t.size) : Nat) : Int) = 1073741825) := Lib.hid (by unfold cap; omega)
  have H1 : ¬ (1 : Int) < t.size := by omega
  clear hk hd h3
  go_enter Tryd.func20, Tryd.ntmps20
  go_wp2_with (first | ((with_reducible refine (kindOf_is _ h0 hs _ (HT.out _) _ HK.out).mono ?_); rintro e w' ⟨rfl, rfl⟩) | ((with_reducible refine (numberOf_is _ hs HD.out _ _ HX.out).mono ?_); rintro e w' ⟨rfl, rfl⟩))
  exact bodyPost_ret (v := .tuple #[.agg #[.int .i64 0, .int .i64 0, .string ⟨#[]⟩, .int .i64 0], .int .i64 13]) (by simp [results, Tryd.results20, go_sem]) rfl ⟨_, _, _, _, rfl, HR.out, (fun h => by cases h), tok_two _ _ _⟩
set_option maxHeartbeats 1000000 in
theorem tokenOf_edge_one (t : ByteArray) (g : Bool) (h0 : 0 < t.size) (hs : t.size ≤ maxLen) (w : World) (hT : Tabs w) (hk : kindM t = 1) (hd : ∀ k, k < t.size → dg (bt t k) = true) (h1 : t.size = 1) (h3 : vl t 0 t.size = 1073741824) (h4 : g = false) : Calls Tryd.prog 20 #[.string t, .bool g] w (TokPost t g w) := by
  have he := nonempty_of h0
  have HT : Hid (∀ o, Tabs (w.alloc o)) := Lib.hid fun o => hT.on (below_new w o)
  clear hT
  have HK : Hid (((kindM t : Nat) : Int) = 1) := Lib.hid (by rw [hk]; rfl)
  have HD := Lib.hid hd
  have HS := Lib.hid hs
  have HR : Hid (((tokErr t g : Nat) : Int) = 13) := Lib.hid (by rw [tokErr_num h0 hk, if_pos (.inr (.inr ⟨h3, h4⟩))]; rfl)
  have HX : Hid (((cap (vl t 0 t.size) : Nat) : Int) = 1073741824) := Lib.hid (by unfold cap; omega)
  have H1 : ¬ (1 : Int) < t.size := by omega
  subst h4
  clear hk hd h3
  go_enter Tryd.func20, Tryd.ntmps20
  go_wp2_with (first | ((with_reducible refine (kindOf_is _ h0 hs _ (HT.out _) _ HK.out).mono ?_); rintro e w' ⟨rfl, rfl⟩) | ((with_reducible refine (numberOf_is _ hs HD.out _ _ HX.out).mono ?_); rintro e w' ⟨rfl, rfl⟩))
  exact bodyPost_ret (v := .tuple #[.agg #[.int .i64 0, .int .i64 0, .string ⟨#[]⟩, .int .i64 0], .int .i64 13]) (by simp [results, Tryd.results20, go_sem]) rfl ⟨_, _, _, _, rfl, HR.out, (fun h => by cases h), tok_two _ _ _⟩
set_option maxHeartbeats 1000000 in
theorem tokenOf_neg_one (t : ByteArray) (g : Bool) (h0 : 0 < t.size) (hs : t.size ≤ maxLen) (w : World) (hT : Tabs w) (hk : kindM t = 1) (hd : ∀ k, k < t.size → dg (bt t k) = true) (h1 : t.size = 1) (h3 : vl t 0 t.size = 1073741824) (h4 : g = true) : Calls Tryd.prog 20 #[.string t, .bool g] w (TokPost t g w) := by
  have he := nonempty_of h0
  have HT : Hid (∀ o, Tabs (w.alloc o)) := Lib.hid fun o => hT.on (below_new w o)
  clear hT
  have HK : Hid (((kindM t : Nat) : Int) = 1) := Lib.hid (by rw [hk]; rfl)
  have HD := Lib.hid hd
  have HS := Lib.hid hs
  have HR : Hid (((tokErr t g : Nat) : Int) = 0) := Lib.hid (by rw [tokErr_num h0 hk, if_neg (by rw [bt_in h0]; simp [h4]; omega)]; rfl)
  have HX : Hid (((cap (vl t 0 t.size) : Nat) : Int) = 1073741824) := Lib.hid (by unfold cap; omega)
  have HV : Hid ((#[.int .i64 1, .int .i64 0, .string t, .int .i64 1073741824] : Array Value) = #[.int .i64 (kindM t : Nat), .int .i64 0, .string t, .int .i64 (tokN t : Nat)]) := Lib.hid (by unfold tokN; rw [hk, if_pos rfl, h3]; rfl)
  have H1 : ¬ (1 : Int) < t.size := by omega
  subst h4
  clear hk hd h3
  go_enter Tryd.func20, Tryd.ntmps20
  go_wp2_with (first | ((with_reducible refine (kindOf_is _ h0 hs _ (HT.out _) _ HK.out).mono ?_); rintro e w' ⟨rfl, rfl⟩) | ((with_reducible refine (numberOf_is _ hs HD.out _ _ HX.out).mono ?_); rintro e w' ⟨rfl, rfl⟩))
  exact bodyPost_ret (v := .tuple #[.agg #[.int .i64 1, .int .i64 0, .string t, .int .i64 1073741824], .int .i64 0]) (by simp [results, Tryd.results20, go_sem]) rfl ⟨_, _, _, _, rfl, HR.out, (fun _ => HV.out), tok_two _ _ _⟩
set_option maxHeartbeats 1000000 in
theorem tokenOf_num_one (t : ByteArray) (g : Bool) (h0 : 0 < t.size) (hs : t.size ≤ maxLen) (w : World) (hT : Tabs w) (hk : kindM t = 1) (hd : ∀ k, k < t.size → dg (bt t k) = true) (h1 : t.size = 1) (h3 : vl t 0 t.size < 1073741824) : Calls Tryd.prog 20 #[.string t, .bool g] w (TokPost t g w) := by
  have he := nonempty_of h0
  have HT : Hid (∀ o, Tabs (w.alloc o)) := Lib.hid fun o => hT.on (below_new w o)
  clear hT
  have HK : Hid (((kindM t : Nat) : Int) = 1) := Lib.hid (by rw [hk]; rfl)
  have HD := Lib.hid hd
  have HS := Lib.hid hs
  have HR : Hid (((tokErr t g : Nat) : Int) = 0) := Lib.hid (by rw [tokErr_num h0 hk, if_neg (by rw [bt_in h0]; omega)]; rfl)
  obtain ⟨x, hv⟩ : ∃ x : Int, ((vl t 0 t.size : Nat) : Int) = x := ⟨_, rfl⟩
  have HX : Hid (((cap (vl t 0 t.size) : Nat) : Int) = x) := Lib.hid (by unfold cap; omega)
  have hx0 : 0 ≤ x := by omega
  have hx1 : x < 1073741824 := by omega
  have hx2 : (x == 1073741824) = false := by simp; omega
  have HV : Hid ((#[.int .i64 1, .int .i64 0, .string t, .int .i64 x] : Array Value) = #[.int .i64 (kindM t : Nat), .int .i64 0, .string t, .int .i64 (tokN t : Nat)]) := Lib.hid (by unfold tokN; rw [hk, if_pos rfl, hv]; rfl)
  have H1 : ¬ (1 : Int) < t.size := by omega
  clear hk hd h3 hv
  go_enter Tryd.func20, Tryd.ntmps20
  go_wp2_with (first | ((with_reducible refine (kindOf_is _ h0 hs _ (HT.out _) _ HK.out).mono ?_); rintro e w' ⟨rfl, rfl⟩) | ((with_reducible refine (numberOf_is _ hs HD.out _ _ HX.out).mono ?_); rintro e w' ⟨rfl, rfl⟩))
  exact bodyPost_ret (v := .tuple #[.agg #[.int .i64 1, .int .i64 0, .string t, .int .i64 x], .int .i64 0]) (by simp [results, Tryd.results20, go_sem]) rfl ⟨_, _, _, _, rfl, HR.out, (fun _ => HV.out), tok_two _ _ _⟩
set_option maxHeartbeats 1000000 in
theorem tokenOf_big_more (t : ByteArray) (g : Bool) (h0 : 0 < t.size) (hs : t.size ≤ maxLen) (w : World) (hT : Tabs w) (hk : kindM t = 1) (hd : ∀ k, k < t.size → dg (bt t k) = true) (h1 : 1 < t.size) (h2 : t[0].toNat ≠ 48) (h3 : 1073741824 < vl t 0 t.size) : Calls Tryd.prog 20 #[.string t, .bool g] w (TokPost t g w) := by
  have he := nonempty_of h0
  have HT : Hid (∀ o, Tabs (w.alloc o)) := Lib.hid fun o => hT.on (below_new w o)
  clear hT
  have HK : Hid (((kindM t : Nat) : Int) = 1) := Lib.hid (by rw [hk]; rfl)
  have HD := Lib.hid hd
  have HS := Lib.hid hs
  have HR : Hid (((tokErr t g : Nat) : Int) = 13) := Lib.hid (by rw [tokErr_num h0 hk, if_pos (.inr (.inl h3))]; rfl)
  have HX : Hid (((cap (vl t 0 t.size) : Nat) : Int) = 1073741825) := Lib.hid (by unfold cap; omega)
  have H1 : (1 : Int) < t.size := by omega
  have h48 : ((t[0].toNat : Int) == 48) = false := by simp; omega
  clear hk hd h3
  go_enter Tryd.func20, Tryd.ntmps20
  go_wp2_with (first | ((with_reducible refine (kindOf_is _ h0 hs _ (HT.out _) _ HK.out).mono ?_); rintro e w' ⟨rfl, rfl⟩) | ((with_reducible refine (numberOf_is _ hs HD.out _ _ HX.out).mono ?_); rintro e w' ⟨rfl, rfl⟩))
  exact bodyPost_ret (v := .tuple #[.agg #[.int .i64 0, .int .i64 0, .string ⟨#[]⟩, .int .i64 0], .int .i64 13]) (by simp [results, Tryd.results20, go_sem]) rfl ⟨_, _, _, _, rfl, HR.out, (fun h => by cases h), tok_two _ _ _⟩
set_option maxHeartbeats 1000000 in
theorem tokenOf_edge_more (t : ByteArray) (g : Bool) (h0 : 0 < t.size) (hs : t.size ≤ maxLen) (w : World) (hT : Tabs w) (hk : kindM t = 1) (hd : ∀ k, k < t.size → dg (bt t k) = true) (h1 : 1 < t.size) (h2 : t[0].toNat ≠ 48) (h3 : vl t 0 t.size = 1073741824) (h4 : g = false) : Calls Tryd.prog 20 #[.string t, .bool g] w (TokPost t g w) := by
  have he := nonempty_of h0
  have HT : Hid (∀ o, Tabs (w.alloc o)) := Lib.hid fun o => hT.on (below_new w o)
  clear hT
  have HK : Hid (((kindM t : Nat) : Int) = 1) := Lib.hid (by rw [hk]; rfl)
  have HD := Lib.hid hd
  have HS := Lib.hid hs
  have HR : Hid (((tokErr t g : Nat) : Int) = 13) := Lib.hid (by rw [tokErr_num h0 hk, if_pos (.inr (.inr ⟨h3, h4⟩))]; rfl)
  have HX : Hid (((cap (vl t 0 t.size) : Nat) : Int) = 1073741824) := Lib.hid (by unfold cap; omega)
  have H1 : (1 : Int) < t.size := by omega
  have h48 : ((t[0].toNat : Int) == 48) = false := by simp; omega
  subst h4
  clear hk hd h3
  go_enter Tryd.func20, Tryd.ntmps20
  go_wp2_with (first | ((with_reducible refine (kindOf_is _ h0 hs _ (HT.out _) _ HK.out).mono ?_); rintro e w' ⟨rfl, rfl⟩) | ((with_reducible refine (numberOf_is _ hs HD.out _ _ HX.out).mono ?_); rintro e w' ⟨rfl, rfl⟩))
  exact bodyPost_ret (v := .tuple #[.agg #[.int .i64 0, .int .i64 0, .string ⟨#[]⟩, .int .i64 0], .int .i64 13]) (by simp [results, Tryd.results20, go_sem]) rfl ⟨_, _, _, _, rfl, HR.out, (fun h => by cases h), tok_two _ _ _⟩
set_option maxHeartbeats 1000000 in
theorem tokenOf_neg_more (t : ByteArray) (g : Bool) (h0 : 0 < t.size) (hs : t.size ≤ maxLen) (w : World) (hT : Tabs w) (hk : kindM t = 1) (hd : ∀ k, k < t.size → dg (bt t k) = true) (h1 : 1 < t.size) (h2 : t[0].toNat ≠ 48) (h3 : vl t 0 t.size = 1073741824) (h4 : g = true) : Calls Tryd.prog 20 #[.string t, .bool g] w (TokPost t g w) := by
  have he := nonempty_of h0
  have HT : Hid (∀ o, Tabs (w.alloc o)) := Lib.hid fun o => hT.on (below_new w o)
  clear hT
  have HK : Hid (((kindM t : Nat) : Int) = 1) := Lib.hid (by rw [hk]; rfl)
  have HD := Lib.hid hd
  have HS := Lib.hid hs
  have HR : Hid (((tokErr t g : Nat) : Int) = 0) := Lib.hid (by rw [tokErr_num h0 hk, if_neg (by rw [bt_in h0]; simp [h4]; omega)]; rfl)
  have HX : Hid (((cap (vl t 0 t.size) : Nat) : Int) = 1073741824) := Lib.hid (by unfold cap; omega)
  have HV : Hid ((#[.int .i64 1, .int .i64 0, .string t, .int .i64 1073741824] : Array Value) = #[.int .i64 (kindM t : Nat), .int .i64 0, .string t, .int .i64 (tokN t : Nat)]) := Lib.hid (by unfold tokN; rw [hk, if_pos rfl, h3]; rfl)
  have H1 : (1 : Int) < t.size := by omega
  have h48 : ((t[0].toNat : Int) == 48) = false := by simp; omega
  subst h4
  clear hk hd h3
  go_enter Tryd.func20, Tryd.ntmps20
  go_wp2_with (first | ((with_reducible refine (kindOf_is _ h0 hs _ (HT.out _) _ HK.out).mono ?_); rintro e w' ⟨rfl, rfl⟩) | ((with_reducible refine (numberOf_is _ hs HD.out _ _ HX.out).mono ?_); rintro e w' ⟨rfl, rfl⟩))
  exact bodyPost_ret (v := .tuple #[.agg #[.int .i64 1, .int .i64 0, .string t, .int .i64 1073741824], .int .i64 0]) (by simp [results, Tryd.results20, go_sem]) rfl ⟨_, _, _, _, rfl, HR.out, (fun _ => HV.out), tok_two _ _ _⟩
set_option maxHeartbeats 1000000 in
theorem tokenOf_num_more (t : ByteArray) (g : Bool) (h0 : 0 < t.size) (hs : t.size ≤ maxLen) (w : World) (hT : Tabs w) (hk : kindM t = 1) (hd : ∀ k, k < t.size → dg (bt t k) = true) (h1 : 1 < t.size) (h2 : t[0].toNat ≠ 48) (h3 : vl t 0 t.size < 1073741824) : Calls Tryd.prog 20 #[.string t, .bool g] w (TokPost t g w) := by
  have he := nonempty_of h0
  have HT : Hid (∀ o, Tabs (w.alloc o)) := Lib.hid fun o => hT.on (below_new w o)
  clear hT
  have HK : Hid (((kindM t : Nat) : Int) = 1) := Lib.hid (by rw [hk]; rfl)
  have HD := Lib.hid hd
  have HS := Lib.hid hs
  have HR : Hid (((tokErr t g : Nat) : Int) = 0) := Lib.hid (by rw [tokErr_num h0 hk, if_neg (by rw [bt_in h0]; omega)]; rfl)
  obtain ⟨x, hv⟩ : ∃ x : Int, ((vl t 0 t.size : Nat) : Int) = x := ⟨_, rfl⟩
  have HX : Hid (((cap (vl t 0 t.size) : Nat) : Int) = x) := Lib.hid (by unfold cap; omega)
  have hx0 : 0 ≤ x := by omega
  have hx1 : x < 1073741824 := by omega
  have hx2 : (x == 1073741824) = false := by simp; omega
  have HV : Hid ((#[.int .i64 1, .int .i64 0, .string t, .int .i64 x] : Array Value) = #[.int .i64 (kindM t : Nat), .int .i64 0, .string t, .int .i64 (tokN t : Nat)]) := Lib.hid (by unfold tokN; rw [hk, if_pos rfl, hv]; rfl)
  have H1 : (1 : Int) < t.size := by omega
  have h48 : ((t[0].toNat : Int) == 48) = false := by simp; omega
  clear hk hd h3 hv
  go_enter Tryd.func20, Tryd.ntmps20
  go_wp2_with (first | ((with_reducible refine (kindOf_is _ h0 hs _ (HT.out _) _ HK.out).mono ?_); rintro e w' ⟨rfl, rfl⟩) | ((with_reducible refine (numberOf_is _ hs HD.out _ _ HX.out).mono ?_); rintro e w' ⟨rfl, rfl⟩))
  exact bodyPost_ret (v := .tuple #[.agg #[.int .i64 1, .int .i64 0, .string t, .int .i64 x], .int .i64 0]) (by simp [results, Tryd.results20, go_sem]) rfl ⟨_, _, _, _, rfl, HR.out, (fun _ => HV.out), tok_two _ _ _⟩
theorem tokErr_name {t : ByteArray} {g : Bool} (h0 : 0 < t.size) (hk : kindM t = 2 ∨ kindM t = 3 ∨ kindM t = 4) : tokErr t g = if 32 < nameLen t then 4 else 0 := by
  unfold tokErr; rw [if_neg (by omega), if_neg (by omega), if_pos hk]
theorem tokErr_sign {t : ByteArray} {g : Bool} (h0 : 0 < t.size) (hk : kindM t = 5 ∨ kindM t = 6) : tokErr t g = 0 := by
  unfold tokErr; rw [if_neg (by omega), if_neg (by omega), if_neg (by omega)]
set_option maxHeartbeats 1000000 in
theorem tokenOf_long_2 (t : ByteArray) (g : Bool) (h0 : 0 < t.size) (hs : t.size ≤ maxLen) (w : World) (hT : Tabs w) (hk : kindM t = 2) (h1 : 32 < nameLen t) : Calls Tryd.prog 20 #[.string t, .bool g] w (TokPost t g w) := by
  have he := nonempty_of h0
  have HT : Hid (∀ o, Tabs (w.alloc o)) := Lib.hid fun o => hT.on (below_new w o)
  clear hT
  have HK : Hid (((kindM t : Nat) : Int) = 2) := Lib.hid (by rw [hk]; rfl)
  obtain ⟨y, hy⟩ : ∃ y, mkS (Lib.trimPrefix t.data.toList [39]) = y := ⟨_, rfl⟩
  have hz := trim_size t
  rw [hy] at hz
  have HL := Lib.hid hy
  clear hy
  have HR : Hid (((tokErr t g : Nat) : Int) = 4) := Lib.hid (by rw [tokErr_name h0 (.inl hk), if_pos h1]; rfl)
  have h2 : (32 : Int) < y.size := by omega
  clear hz hk h1
  go_enter Tryd.func20, Tryd.ntmps20
  go_wp2_with (first | ((with_reducible refine (kindOf_is _ h0 hs _ (HT.out _) _ HK.out).mono ?_); rintro e w' ⟨rfl, rfl⟩) | (go_at_call 33; refine (trim_is t y HL.out _).mono ?_; rintro e w' ⟨rfl, rfl⟩))
  exact bodyPost_ret (v := .tuple #[.agg #[.int .i64 0, .int .i64 0, .string ⟨#[]⟩, .int .i64 0], .int .i64 4]) (by simp [results, Tryd.results20, go_sem]) rfl ⟨_, _, _, _, rfl, HR.out, (fun h => by cases h), tok_two _ _ _⟩
set_option maxHeartbeats 1000000 in
theorem tokenOf_name_2 (t : ByteArray) (g : Bool) (h0 : 0 < t.size) (hs : t.size ≤ maxLen) (w : World) (hT : Tabs w) (hk : kindM t = 2) (h1 : ¬ 32 < nameLen t) : Calls Tryd.prog 20 #[.string t, .bool g] w (TokPost t g w) := by
  have he := nonempty_of h0
  have HT : Hid (∀ o, Tabs (w.alloc o)) := Lib.hid fun o => hT.on (below_new w o)
  clear hT
  have HK : Hid (((kindM t : Nat) : Int) = 2) := Lib.hid (by rw [hk]; rfl)
  obtain ⟨y, hy⟩ : ∃ y, mkS (Lib.trimPrefix t.data.toList [39]) = y := ⟨_, rfl⟩
  have hz := trim_size t
  rw [hy] at hz
  have HL := Lib.hid hy
  clear hy
  have HR : Hid (((tokErr t g : Nat) : Int) = 0) := Lib.hid (by rw [tokErr_name h0 (.inl hk), if_neg h1]; rfl)
  have h2 : ¬ (32 : Int) < y.size := by omega
  have HV : Hid ((#[.int .i64 2, .int .i64 0, .string t, .int .i64 0] : Array Value) = #[.int .i64 (kindM t : Nat), .int .i64 0, .string t, .int .i64 (tokN t : Nat)]) := Lib.hid (by unfold tokN; rw [hk, if_neg (by decide)]; rfl)
  clear hz hk h1
  go_enter Tryd.func20, Tryd.ntmps20
  go_wp2_with (first | ((with_reducible refine (kindOf_is _ h0 hs _ (HT.out _) _ HK.out).mono ?_); rintro e w' ⟨rfl, rfl⟩) | (go_at_call 33; refine (trim_is t y HL.out _).mono ?_; rintro e w' ⟨rfl, rfl⟩))
  exact bodyPost_ret (v := .tuple #[.agg #[.int .i64 2, .int .i64 0, .string t, .int .i64 0], .int .i64 0]) (by simp [results, Tryd.results20, go_sem]) rfl ⟨_, _, _, _, rfl, HR.out, (fun _ => HV.out), tok_two _ _ _⟩
set_option maxHeartbeats 1000000 in
theorem tokenOf_long_3 (t : ByteArray) (g : Bool) (h0 : 0 < t.size) (hs : t.size ≤ maxLen) (w : World) (hT : Tabs w) (hk : kindM t = 3) (h1 : 32 < nameLen t) : Calls Tryd.prog 20 #[.string t, .bool g] w (TokPost t g w) := by
  have he := nonempty_of h0
  have HT : Hid (∀ o, Tabs (w.alloc o)) := Lib.hid fun o => hT.on (below_new w o)
  clear hT
  have HK : Hid (((kindM t : Nat) : Int) = 3) := Lib.hid (by rw [hk]; rfl)
  obtain ⟨y, hy⟩ : ∃ y, mkS (Lib.trimPrefix t.data.toList [39]) = y := ⟨_, rfl⟩
  have hz := trim_size t
  rw [hy] at hz
  have HL := Lib.hid hy
  clear hy
  have HR : Hid (((tokErr t g : Nat) : Int) = 4) := Lib.hid (by rw [tokErr_name h0 (.inr (.inl hk)), if_pos h1]; rfl)
  have h2 : (32 : Int) < y.size := by omega
  clear hz hk h1
  go_enter Tryd.func20, Tryd.ntmps20
  go_wp2_with (first | ((with_reducible refine (kindOf_is _ h0 hs _ (HT.out _) _ HK.out).mono ?_); rintro e w' ⟨rfl, rfl⟩) | (go_at_call 33; refine (trim_is t y HL.out _).mono ?_; rintro e w' ⟨rfl, rfl⟩))
  exact bodyPost_ret (v := .tuple #[.agg #[.int .i64 0, .int .i64 0, .string ⟨#[]⟩, .int .i64 0], .int .i64 4]) (by simp [results, Tryd.results20, go_sem]) rfl ⟨_, _, _, _, rfl, HR.out, (fun h => by cases h), tok_two _ _ _⟩
set_option maxHeartbeats 1000000 in
theorem tokenOf_name_3 (t : ByteArray) (g : Bool) (h0 : 0 < t.size) (hs : t.size ≤ maxLen) (w : World) (hT : Tabs w) (hk : kindM t = 3) (h1 : ¬ 32 < nameLen t) : Calls Tryd.prog 20 #[.string t, .bool g] w (TokPost t g w) := by
  have he := nonempty_of h0
  have HT : Hid (∀ o, Tabs (w.alloc o)) := Lib.hid fun o => hT.on (below_new w o)
  clear hT
  have HK : Hid (((kindM t : Nat) : Int) = 3) := Lib.hid (by rw [hk]; rfl)
  obtain ⟨y, hy⟩ : ∃ y, mkS (Lib.trimPrefix t.data.toList [39]) = y := ⟨_, rfl⟩
  have hz := trim_size t
  rw [hy] at hz
  have HL := Lib.hid hy
  clear hy
  have HR : Hid (((tokErr t g : Nat) : Int) = 0) := Lib.hid (by rw [tokErr_name h0 (.inr (.inl hk)), if_neg h1]; rfl)
  have h2 : ¬ (32 : Int) < y.size := by omega
  have HV : Hid ((#[.int .i64 3, .int .i64 0, .string t, .int .i64 0] : Array Value) = #[.int .i64 (kindM t : Nat), .int .i64 0, .string t, .int .i64 (tokN t : Nat)]) := Lib.hid (by unfold tokN; rw [hk, if_neg (by decide)]; rfl)
  clear hz hk h1
  go_enter Tryd.func20, Tryd.ntmps20
  go_wp2_with (first | ((with_reducible refine (kindOf_is _ h0 hs _ (HT.out _) _ HK.out).mono ?_); rintro e w' ⟨rfl, rfl⟩) | (go_at_call 33; refine (trim_is t y HL.out _).mono ?_; rintro e w' ⟨rfl, rfl⟩))
  exact bodyPost_ret (v := .tuple #[.agg #[.int .i64 3, .int .i64 0, .string t, .int .i64 0], .int .i64 0]) (by simp [results, Tryd.results20, go_sem]) rfl ⟨_, _, _, _, rfl, HR.out, (fun _ => HV.out), tok_two _ _ _⟩
set_option maxHeartbeats 1000000 in
theorem tokenOf_long_4 (t : ByteArray) (g : Bool) (h0 : 0 < t.size) (hs : t.size ≤ maxLen) (w : World) (hT : Tabs w) (hk : kindM t = 4) (h1 : 32 < nameLen t) : Calls Tryd.prog 20 #[.string t, .bool g] w (TokPost t g w) := by
  have he := nonempty_of h0
  have HT : Hid (∀ o, Tabs (w.alloc o)) := Lib.hid fun o => hT.on (below_new w o)
  clear hT
  have HK : Hid (((kindM t : Nat) : Int) = 4) := Lib.hid (by rw [hk]; rfl)
  obtain ⟨y, hy⟩ : ∃ y, mkS (Lib.trimPrefix t.data.toList [39]) = y := ⟨_, rfl⟩
  have hz := trim_size t
  rw [hy] at hz
  have HL := Lib.hid hy
  clear hy
  have HR : Hid (((tokErr t g : Nat) : Int) = 4) := Lib.hid (by rw [tokErr_name h0 (.inr (.inr hk)), if_pos h1]; rfl)
  have h2 : (32 : Int) < y.size := by omega
  clear hz hk h1
  go_enter Tryd.func20, Tryd.ntmps20
  go_wp2_with (first | ((with_reducible refine (kindOf_is _ h0 hs _ (HT.out _) _ HK.out).mono ?_); rintro e w' ⟨rfl, rfl⟩) | (go_at_call 33; refine (trim_is t y HL.out _).mono ?_; rintro e w' ⟨rfl, rfl⟩))
  exact bodyPost_ret (v := .tuple #[.agg #[.int .i64 0, .int .i64 0, .string ⟨#[]⟩, .int .i64 0], .int .i64 4]) (by simp [results, Tryd.results20, go_sem]) rfl ⟨_, _, _, _, rfl, HR.out, (fun h => by cases h), tok_two _ _ _⟩
set_option maxHeartbeats 1000000 in
theorem tokenOf_name_4 (t : ByteArray) (g : Bool) (h0 : 0 < t.size) (hs : t.size ≤ maxLen) (w : World) (hT : Tabs w) (hk : kindM t = 4) (h1 : ¬ 32 < nameLen t) : Calls Tryd.prog 20 #[.string t, .bool g] w (TokPost t g w) := by
  have he := nonempty_of h0
  have HT : Hid (∀ o, Tabs (w.alloc o)) := Lib.hid fun o => hT.on (below_new w o)
  clear hT
  have HK : Hid (((kindM t : Nat) : Int) = 4) := Lib.hid (by rw [hk]; rfl)
  obtain ⟨y, hy⟩ : ∃ y, mkS (Lib.trimPrefix t.data.toList [39]) = y := ⟨_, rfl⟩
  have hz := trim_size t
  rw [hy] at hz
  have HL := Lib.hid hy
  clear hy
  have HR : Hid (((tokErr t g : Nat) : Int) = 0) := Lib.hid (by rw [tokErr_name h0 (.inr (.inr hk)), if_neg h1]; rfl)
  have h2 : ¬ (32 : Int) < y.size := by omega
  have HV : Hid ((#[.int .i64 4, .int .i64 0, .string t, .int .i64 0] : Array Value) = #[.int .i64 (kindM t : Nat), .int .i64 0, .string t, .int .i64 (tokN t : Nat)]) := Lib.hid (by unfold tokN; rw [hk, if_neg (by decide)]; rfl)
  clear hz hk h1
  go_enter Tryd.func20, Tryd.ntmps20
  go_wp2_with (first | ((with_reducible refine (kindOf_is _ h0 hs _ (HT.out _) _ HK.out).mono ?_); rintro e w' ⟨rfl, rfl⟩) | (go_at_call 33; refine (trim_is t y HL.out _).mono ?_; rintro e w' ⟨rfl, rfl⟩))
  exact bodyPost_ret (v := .tuple #[.agg #[.int .i64 4, .int .i64 0, .string t, .int .i64 0], .int .i64 0]) (by simp [results, Tryd.results20, go_sem]) rfl ⟨_, _, _, _, rfl, HR.out, (fun _ => HV.out), tok_two _ _ _⟩
set_option maxHeartbeats 1000000 in
theorem tokenOf_sign_5 (t : ByteArray) (g : Bool) (h0 : 0 < t.size) (hs : t.size ≤ maxLen) (w : World) (hT : Tabs w) (hk : kindM t = 5) : Calls Tryd.prog 20 #[.string t, .bool g] w (TokPost t g w) := by
  have he := nonempty_of h0
  have HT : Hid (∀ o, Tabs (w.alloc o)) := Lib.hid fun o => hT.on (below_new w o)
  clear hT
  have HK : Hid (((kindM t : Nat) : Int) = 5) := Lib.hid (by rw [hk]; rfl)
  have HR : Hid (((tokErr t g : Nat) : Int) = 0) := Lib.hid (by rw [tokErr_sign h0 (.inl hk)]; rfl)
  have HV : Hid ((#[.int .i64 5, .int .i64 0, .string t, .int .i64 0] : Array Value) = #[.int .i64 (kindM t : Nat), .int .i64 0, .string t, .int .i64 (tokN t : Nat)]) := Lib.hid (by unfold tokN; rw [hk, if_neg (by decide)]; rfl)
  clear hk
  go_enter Tryd.func20, Tryd.ntmps20
  go_wp2_with (first | ((with_reducible refine (kindOf_is _ h0 hs _ (HT.out _) _ HK.out).mono ?_); rintro e w' ⟨rfl, rfl⟩))
  exact bodyPost_ret (v := .tuple #[.agg #[.int .i64 5, .int .i64 0, .string t, .int .i64 0], .int .i64 0]) (by simp [results, Tryd.results20, go_sem]) rfl ⟨_, _, _, _, rfl, HR.out, (fun _ => HV.out), tok_two _ _ _⟩
set_option maxHeartbeats 1000000 in
theorem tokenOf_sign_6 (t : ByteArray) (g : Bool) (h0 : 0 < t.size) (hs : t.size ≤ maxLen) (w : World) (hT : Tabs w) (hk : kindM t = 6) : Calls Tryd.prog 20 #[.string t, .bool g] w (TokPost t g w) := by
  have he := nonempty_of h0
  have HT : Hid (∀ o, Tabs (w.alloc o)) := Lib.hid fun o => hT.on (below_new w o)
  clear hT
  have HK : Hid (((kindM t : Nat) : Int) = 6) := Lib.hid (by rw [hk]; rfl)
  have HR : Hid (((tokErr t g : Nat) : Int) = 0) := Lib.hid (by rw [tokErr_sign h0 (.inr hk)]; rfl)
  have HV : Hid ((#[.int .i64 6, .int .i64 0, .string t, .int .i64 0] : Array Value) = #[.int .i64 (kindM t : Nat), .int .i64 0, .string t, .int .i64 (tokN t : Nat)]) := Lib.hid (by unfold tokN; rw [hk, if_neg (by decide)]; rfl)
  clear hk
  go_enter Tryd.func20, Tryd.ntmps20
  go_wp2_with (first | ((with_reducible refine (kindOf_is _ h0 hs _ (HT.out _) _ HK.out).mono ?_); rintro e w' ⟨rfl, rfl⟩))
  exact bodyPost_ret (v := .tuple #[.agg #[.int .i64 6, .int .i64 0, .string t, .int .i64 0], .int .i64 0]) (by simp [results, Tryd.results20, go_sem]) rfl ⟨_, _, _, _, rfl, HR.out, (fun _ => HV.out), tok_two _ _ _⟩
theorem kindM_cases (t : ByteArray) : kindM t = 1 ∨ kindM t = 2 ∨ kindM t = 3 ∨ kindM t = 4 ∨ kindM t = 5 ∨ kindM t = 6 := by
  unfold kindM
  repeat' split
  all_goals omega
/-- tokenOf, whatever the text: if it begins with a digit, it is digits. -/
theorem tokenOf_any (t : ByteArray) (g : Bool) (hs : t.size ≤ maxLen) (hd : kindM t = 1 → ∀ k, k < t.size → dg (bt t k) = true) (w : World) (hT : Tabs w) : Calls Tryd.prog 20 #[.string t, .bool g] w (TokPost t g w) := by
  by_cases hz : t.size = 0
  · exact tokenOf_empty t g hz w
  have h0 : 0 < t.size := by omega
  rcases kindM_cases t with hk | hk | hk | hk | hk | hk
  · have hd := hd hk
    by_cases h1 : 1 < t.size
    · by_cases h2 : t[0].toNat = 48
      · exact tokenOf_lead t g h0 hs w hT hk hd h1 h2
      · rcases Nat.lt_trichotomy (vl t 0 t.size) 1073741824 with h3 | h3 | h3
        · exact tokenOf_num_more t g h0 hs w hT hk hd h1 h2 h3
        · cases hg : g
          · exact hg ▸ tokenOf_edge_more t g h0 hs w hT hk hd h1 h2 h3 hg
          · exact hg ▸ tokenOf_neg_more t g h0 hs w hT hk hd h1 h2 h3 hg
        · exact tokenOf_big_more t g h0 hs w hT hk hd h1 h2 h3
    · have h1 : t.size = 1 := by omega
      rcases Nat.lt_trichotomy (vl t 0 t.size) 1073741824 with h3 | h3 | h3
      · exact tokenOf_num_one t g h0 hs w hT hk hd h1 h3
      · cases hg : g
        · exact hg ▸ tokenOf_edge_one t g h0 hs w hT hk hd h1 h3 hg
        · exact hg ▸ tokenOf_neg_one t g h0 hs w hT hk hd h1 h3 hg
      · exact tokenOf_big_one t g h0 hs w hT hk hd h1 h3
  · by_cases h1 : 32 < nameLen t
    · exact tokenOf_long_2 t g h0 hs w hT hk h1
    · exact tokenOf_name_2 t g h0 hs w hT hk h1
  · by_cases h1 : 32 < nameLen t
    · exact tokenOf_long_3 t g h0 hs w hT hk h1
    · exact tokenOf_name_3 t g h0 hs w hT hk h1
  · by_cases h1 : 32 < nameLen t
    · exact tokenOf_long_4 t g h0 hs w hT hk h1
    · exact tokenOf_name_4 t g h0 hs w hT hk h1
  · exact tokenOf_sign_5 t g h0 hs w hT hk
  · exact tokenOf_sign_6 t g h0 hs w hT hk
end Go.Proofs.YtkogfdbmgdajdaaDoor
