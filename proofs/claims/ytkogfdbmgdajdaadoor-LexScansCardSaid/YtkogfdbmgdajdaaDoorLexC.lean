/-
  CONTRACTS OF lex, III: where a token ends; its kind; the token.
-/
import Derived.Test.YtkogfdbmgdajdaaDoorLexB
namespace Go.Proofs.YtkogfdbmgdajdaaDoor
open Go.ChangeShapes Go.WideShapes Go.ChangeAt Go.RowKit
set_option linter.unusedVariables false
theorem endFinder_any (s : ByteArray) (w : World) : Calls Tryd.prog 18 #[.string s] w fun e w' => e = .returned (.func (.func 26) #[] #[.pointer (some ⟨w.heap.size, 0, none⟩)]) ∧ w' = w.alloc (.cells #[.string s] 9) := by
  go_enter Tryd.func18, Tryd.ntmps18
  go_wp2
  go_ret
  exact ⟨rfl, rfl⟩
theorem cls_is {s : ByteArray} {k : Nat} (h : k < s.size) (n : Nat) (hn : cls (bt s k) = n) : ((cls s[k].toNat : Nat) : Int) = n := by rw [← bt_in h, hn]
theorem u8_lt (c : UInt8) : c.toNat < 256 := UInt8.toNat_lt c
theorem symbolAt_is (s : ByteArray) (a : Nat) (ha : a ≤ s.size) (hs : s.size ≤ maxLen) (w : World) (hT : Tabs w) (y : ByteArray) (h : mkS (sy s a) = y) : Calls Tryd.prog 28 #[.string (s.extract a s.size)] w fun e w' => e = .returned (.string y) ∧ w = w' := by
  subst h; exact symbolAt_any s a ha hs w hT
theorem sy_len (s : ByteArray) (a : Nat) : (sy s a).length ≤ 2 := best_len s a 19
theorem sy_val (s : ByteArray) (a : Nat) (ha : a ≤ s.size) : ∃ t : ByteArray, a + t.size ≤ s.size ∧ Hid (mkS (sy s a) = t) ∧ Hid (t.size = (sy s a).length) := ⟨_, by rw [mkS_size]; exact pre_size ha (sy_spec s a).2.1, Lib.hid rfl, Lib.hid (mkS_size _)⟩
def EndPost (s : ByteArray) (a : Nat) (w : World) (e : Ending) (w' : World) : Prop := e = .returned (.int .i64 (tokEnd s a : Nat)) ∧ w = w'
set_option maxHeartbeats 1000000 in
theorem end_sign (s : ByteArray) (a B : Nat) (ha : a < s.size) (hs : s.size ≤ maxLen) (w : World) (hT : Tabs w) (hc : w.cell? ⟨B, 0, none⟩ = some (.string s)) (h1 : dg (bt s a) = false) (h2 : lt (bt s a) = false) (h3 : ¬ (bt s a = 39 ∧ lt (bt s (a + 1)) = true)) :
    Calls Tryd.prog 26 #[.int .i64 a, .pointer (some ⟨B, 0, none⟩)] w (EndPost s a w) := by
  have hs' := hs
  unfold maxLen at hs
  have HT := Lib.hid hT
  have HE : Hid (tokEnd s a = a + (sy s a).length) := Lib.hid (by unfold tokEnd; rw [if_neg (by simp [h1]), if_neg (fun h => h.elim (fun h => by rw [h2] at h; cases h) h3)])
  obtain ⟨t, hz', HY, HZ⟩ := sy_val s a (by omega)
  rcases cls_cases (bt s a) with ⟨hk, hb⟩ | ⟨hk, hb, hb2⟩ | ⟨hk, hb⟩ | ⟨hk, _⟩
  · rw [h1] at hb; cases hb
  · rw [h2] at hb2; cases hb2
  · have HC : Hid (((cls s[a].toNat : Nat) : Int) = 3) := Lib.hid (cls_is ha 3 hk)
    have hnl : ¬ lt (bt s (a + 1)) = true := fun h => h3 ⟨hb, h⟩
    clear hT h1 h2 h3 hk hb
    by_cases hn : a + 1 < s.size
    · obtain ⟨x, hx, hx2⟩ : ∃ x : Int, ((cls s[a + 1].toNat : Nat) : Int) = x ∧ x ≠ 2 := ⟨_, rfl, fun h => by
        rcases cls_cases (bt s (a + 1)) with ⟨hk, hb⟩ | ⟨hk, hb, hb2⟩ | ⟨hk, hb⟩ | ⟨hk, hb⟩
        · rw [← bt_in hn, hk] at h; omega
        · exact hnl hb2
        · rw [← bt_in hn, hk] at h; omega
        · rw [← bt_in hn, hk] at h; omega⟩
      have HX := Lib.hid hx
      have hx3 : (x != 2) = true := by simpa using hx2
      clear hnl hx hx2
      go_enter Tryd.func26, Tryd.ntmps26
      go_wp2
      go_step3
      go_wp2_with (first | ((with_reducible refine (classOf_is _ (u8_lt _) _ HC.out _).mono ?_); rintro e w' ⟨rfl, rfl⟩) | ((with_reducible refine (classOf_is _ (u8_lt _) _ HX.out _).mono ?_); rintro e w' ⟨rfl, rfl⟩) | (go_at_call 28; refine (symbolAt_is s a (by omega) hs' _ HT.out t HY.out).mono ?_; rintro e w' ⟨rfl, rfl⟩))
      try rw [Exit.noGoto_ret]
      go_ret
      exact ⟨ret_int (by have := HZ.out; rw [HE.out]; omega), rfl⟩
    · clear hnl
      go_enter Tryd.func26, Tryd.ntmps26
      go_wp2
      go_step3
      go_wp2_with (first | ((with_reducible refine (classOf_is _ (u8_lt _) _ HC.out _).mono ?_); rintro e w' ⟨rfl, rfl⟩) | (go_at_call 28; refine (symbolAt_is s a (by omega) hs' _ HT.out t HY.out).mono ?_; rintro e w' ⟨rfl, rfl⟩))
      try rw [Exit.noGoto_ret]
      go_ret
      exact ⟨ret_int (by have := HZ.out; rw [HE.out]; omega), rfl⟩
  · have HC : Hid (((cls s[a].toNat : Nat) : Int) = 0) := Lib.hid (cls_is ha 0 hk)
    clear hT h1 h2 h3 hk
    go_enter Tryd.func26, Tryd.ntmps26
    go_wp2
    go_step3
    go_wp2_with (first | ((with_reducible refine (classOf_is _ (u8_lt _) _ HC.out _).mono ?_); rintro e w' ⟨rfl, rfl⟩) | (go_at_call 28; refine (symbolAt_is s a (by omega) hs' _ HT.out t HY.out).mono ?_; rintro e w' ⟨rfl, rfl⟩))
    try rw [Exit.noGoto_ret]
    go_ret
    exact ⟨ret_int (by have := HZ.out; rw [HE.out]; omega), rfl⟩

theorem dig_cls {c : Nat} (h : dg c = true) : cls c = 1 := by unfold cls; rw [if_pos h]
theorem wc_cls {c : Nat} (h : wc c = true) : cls c = 1 ∨ cls c = 2 ∨ cls c = 3 := by
  rcases cls_cases c with ⟨h1, _⟩ | ⟨h1, _⟩ | ⟨h1, _⟩ | ⟨h1, h2, h3, h4⟩
  · exact .inl h1
  · exact .inr (.inl h1)
  · exact .inr (.inr h1)
  · rw [wc_false.2 ⟨h2, h3, h4⟩] at h; cases h
theorem wc_cls0 {c : Nat} (h : wc c = false) : cls c = 0 := by
  obtain ⟨h1, h2, h3⟩ := wc_false.1 h
  unfold cls; rw [if_neg (by simp [h1]), if_neg (by simp [h2]), if_neg h3]
theorem dig_cls0 {c : Nat} (h : dg c = false) : cls c = 0 ∨ cls c = 2 ∨ cls c = 3 := by
  rcases cls_cases c with ⟨_, h1⟩ | ⟨h1, _⟩ | ⟨h1, _⟩ | ⟨h1, _⟩
  · rw [h1] at h; cases h
  · exact .inr (.inl h1)
  · exact .inr (.inr h1)
  · exact .inl h1
set_option maxHeartbeats 1000000 in
theorem end_digits (s : ByteArray) (a B : Nat) (ha : a < s.size) (hs : s.size ≤ maxLen) (w : World) (hc : w.cell? ⟨B, 0, none⟩ = some (.string s)) (h1 : dg (bt s a) = true) :
    Calls Tryd.prog 26 #[.int .i64 a, .pointer (some ⟨B, 0, none⟩)] w (EndPost s a w) := by
  have hs' := hs
  unfold maxLen at hs
  have HE : Hid (tokEnd s a = rend dg s (a + 1)) := Lib.hid (by unfold tokEnd; rw [if_pos h1])
  have HC : Hid (((cls s[a].toNat : Nat) : Int) = 1) := Lib.hid (cls_is ha 1 (dig_cls h1))
  clear h1
  go_enter Tryd.func26, Tryd.ntmps26
  go_wp2
  go_step3
  go_wp2_with (first | ((with_reducible refine (classOf_is _ (u8_lt _) _ HC.out _).mono ?_); rintro e w' ⟨rfl, rfl⟩))
  go_step3
  go_wp2
  go_loopg [5] (s.size - (a + 1)) (fun n x wr => ∃ k : Nat, a + 1 ≤ k ∧ k ≤ s.size ∧ n = s.size - k ∧ x = .int .i64 k ∧ rend dg s k = tokEnd s a ∧ w = wr)
  case atStart => exact ⟨a + 1, by omega, by omega, rfl, by go_num, HE.out.symm, rfl⟩
  case round =>
    obtain ⟨k, hak, hk, rfl, rfl, hr, rfl⟩ := hrel
    have HR := Lib.hid hr
    clear hr
    by_cases hlt : k < s.size
    · cases hd : dg (bt s k)
      · have HX : Hid (tokEnd s a = k) := Lib.hid (by rw [← HR.out, rend_no dg256 hd])
        rcases dig_cls0 hd with hx | hx | hx
        · have HY : Hid (((cls s[k].toNat : Nat) : Int) = 0) := Lib.hid (cls_is hlt 0 hx)
          clear hd hx
          go_wp2_with (first | ((with_reducible refine (classOf_is _ (u8_lt _) _ HY.out _).mono ?_); rintro e w' ⟨rfl, rfl⟩))
          try rw [Exit.noGoto_ret]
          go_ret
          exact ⟨ret_int (by rw [HX.out]), rfl⟩
        · have HY : Hid (((cls s[k].toNat : Nat) : Int) = 2) := Lib.hid (cls_is hlt 2 hx)
          clear hd hx
          go_wp2_with (first | ((with_reducible refine (classOf_is _ (u8_lt _) _ HY.out _).mono ?_); rintro e w' ⟨rfl, rfl⟩))
          try rw [Exit.noGoto_ret]
          go_ret
          exact ⟨ret_int (by rw [HX.out]), rfl⟩
        · have HY : Hid (((cls s[k].toNat : Nat) : Int) = 3) := Lib.hid (cls_is hlt 3 hx)
          clear hd hx
          go_wp2_with (first | ((with_reducible refine (classOf_is _ (u8_lt _) _ HY.out _).mono ?_); rintro e w' ⟨rfl, rfl⟩))
          try rw [Exit.noGoto_ret]
          go_ret
          exact ⟨ret_int (by rw [HX.out]), rfl⟩
      · have HY : Hid (((cls s[k].toNat : Nat) : Int) = 1) := Lib.hid (cls_is hlt 1 (dig_cls hd))
        have HD := Lib.hid hd
        clear hd
        go_wp2_with (first | ((with_reducible refine (classOf_is _ (u8_lt _) _ HY.out _).mono ?_); rintro e w' ⟨rfl, rfl⟩))
        go_roundg (s.size - (k + 1))
        case rel => exact ⟨k + 1, by omega, by omega, rfl, by go_num, by rw [← HR.out, ← rend_yes dg256 HD.out], rfl⟩
        case measure => omega
    · obtain rfl : k = s.size := by omega
      have HX : Hid (tokEnd s a = s.size) := Lib.hid (by rw [← HR.out, rend_no dg256 (by rw [bt_out hlt]; rfl)])
      go_wp2
      try rw [Exit.noGoto_ret]
      go_ret
      exact ⟨ret_int (by rw [HX.out]), rfl⟩
set_option maxHeartbeats 1000000 in
theorem end_letters (s : ByteArray) (a B : Nat) (ha : a < s.size) (hs : s.size ≤ maxLen) (w : World) (hc : w.cell? ⟨B, 0, none⟩ = some (.string s)) (h0 : dg (bt s a) = false) (h1 : lt (bt s a) = true) :
    Calls Tryd.prog 26 #[.int .i64 a, .pointer (some ⟨B, 0, none⟩)] w (EndPost s a w) := by
  have hs' := hs
  unfold maxLen at hs
  have HE : Hid (tokEnd s a = rend wc s (a + 1)) := Lib.hid (by unfold tokEnd; rw [if_neg (by simp [h0]), if_pos (.inl h1)])
  have HC : Hid (((cls s[a].toNat : Nat) : Int) = 2) := Lib.hid (cls_is ha 2 (by unfold cls; rw [if_neg (by simp [h0]), if_pos h1]))
  clear h0 h1
  go_enter Tryd.func26, Tryd.ntmps26
  go_wp2
  go_step3
  go_wp2_with (first | ((with_reducible refine (classOf_is _ (u8_lt _) _ HC.out _).mono ?_); rintro e w' ⟨rfl, rfl⟩))
  go_step3
  go_wp2
  go_loopg [5] (s.size - (a + 1)) (fun n x wr => ∃ k : Nat, a + 1 ≤ k ∧ k ≤ s.size ∧ n = s.size - k ∧ x = .int .i64 k ∧ rend wc s k = tokEnd s a ∧ w = wr)
  case atStart => exact ⟨a + 1, by omega, by omega, rfl, by go_num, HE.out.symm, rfl⟩
  case round =>
    obtain ⟨k, hak, hk, rfl, rfl, hr, rfl⟩ := hrel
    have HR := Lib.hid hr
    clear hr
    by_cases hlt : k < s.size
    · cases hd : wc (bt s k)
      · have HX : Hid (tokEnd s a = k) := Lib.hid (by rw [← HR.out, rend_no wc256 hd])
        have HY : Hid (((cls s[k].toNat : Nat) : Int) = 0) := Lib.hid (cls_is hlt 0 (wc_cls0 hd))
        clear hd
        go_wp2_with (first | ((with_reducible refine (classOf_is _ (u8_lt _) _ HY.out _).mono ?_); rintro e w' ⟨rfl, rfl⟩))
        try rw [Exit.noGoto_ret]
        go_ret
        exact ⟨ret_int (by rw [HX.out]), rfl⟩
      · have HD := Lib.hid hd
        rcases wc_cls hd with hx | hx | hx
        · have HY : Hid (((cls s[k].toNat : Nat) : Int) = 1) := Lib.hid (cls_is hlt 1 hx)
          clear hd hx
          go_wp2_with (first | ((with_reducible refine (classOf_is _ (u8_lt _) _ HY.out _).mono ?_); rintro e w' ⟨rfl, rfl⟩))
          go_roundg (s.size - (k + 1))
          case rel => exact ⟨k + 1, by omega, by omega, rfl, by go_num, by rw [← HR.out, ← rend_yes wc256 HD.out], rfl⟩
          case measure => omega
        · have HY : Hid (((cls s[k].toNat : Nat) : Int) = 2) := Lib.hid (cls_is hlt 2 hx)
          clear hd hx
          go_wp2_with (first | ((with_reducible refine (classOf_is _ (u8_lt _) _ HY.out _).mono ?_); rintro e w' ⟨rfl, rfl⟩))
          go_roundg (s.size - (k + 1))
          case rel => exact ⟨k + 1, by omega, by omega, rfl, by go_num, by rw [← HR.out, ← rend_yes wc256 HD.out], rfl⟩
          case measure => omega
        · have HY : Hid (((cls s[k].toNat : Nat) : Int) = 3) := Lib.hid (cls_is hlt 3 hx)
          clear hd hx
          go_wp2_with (first | ((with_reducible refine (classOf_is _ (u8_lt _) _ HY.out _).mono ?_); rintro e w' ⟨rfl, rfl⟩))
          go_roundg (s.size - (k + 1))
          case rel => exact ⟨k + 1, by omega, by omega, rfl, by go_num, by rw [← HR.out, ← rend_yes wc256 HD.out], rfl⟩
          case measure => omega
    · obtain rfl : k = s.size := by omega
      have HX : Hid (tokEnd s a = s.size) := Lib.hid (by rw [← HR.out, rend_no wc256 (by rw [bt_out hlt]; rfl)])
      go_wp2
      try rw [Exit.noGoto_ret]
      go_ret
      exact ⟨ret_int (by rw [HX.out]), rfl⟩
set_option maxHeartbeats 1000000 in
theorem end_tyvar (s : ByteArray) (a B : Nat) (ha : a + 1 < s.size) (hs : s.size ≤ maxLen) (w : World) (hc : w.cell? ⟨B, 0, none⟩ = some (.string s)) (h0 : bt s a = 39) (h1 : lt (bt s (a + 1)) = true) :
    Calls Tryd.prog 26 #[.int .i64 a, .pointer (some ⟨B, 0, none⟩)] w (EndPost s a w) := by
  have hs' := hs
  unfold maxLen at hs
  have HE : Hid (tokEnd s a = rend wc s (a + 1)) := Lib.hid (by unfold tokEnd; rw [if_neg (by rw [h0]; decide), if_pos (.inr ⟨h0, h1⟩)])
  have hd : dg (bt s (a + 1)) = false := by rw [dg_false]; have := lt_iff.1 h1; omega
  have HC : Hid (((cls s[a].toNat : Nat) : Int) = 3) := Lib.hid (cls_is (by omega) 3 (by rw [h0]; rfl))
  have hq : ((a : Int) + 1 == (s.size : Int)) = false := by simp; omega
  have HN : Hid (((cls s[a + 1].toNat : Nat) : Int) = 2) := Lib.hid (cls_is ha 2 (by unfold cls; rw [if_neg (by simp [hd]), if_pos h1]))
  clear h0 h1 hd
  go_enter Tryd.func26, Tryd.ntmps26
  go_wp2
  go_step3
  go_wp2_with (first | ((with_reducible refine (classOf_is _ (u8_lt _) _ HC.out _).mono ?_); rintro e w' ⟨rfl, rfl⟩) | ((with_reducible refine (classOf_is _ (u8_lt _) _ HN.out _).mono ?_); rintro e w' ⟨rfl, rfl⟩))
  go_step3
  go_wp2
  go_loopg [5] (s.size - (a + 1)) (fun n x wr => ∃ k : Nat, a + 1 ≤ k ∧ k ≤ s.size ∧ n = s.size - k ∧ x = .int .i64 k ∧ rend wc s k = tokEnd s a ∧ w = wr)
  case atStart => exact ⟨a + 1, by omega, by omega, rfl, by go_num, HE.out.symm, rfl⟩
  case round =>
    obtain ⟨k, hak, hk, rfl, rfl, hr, rfl⟩ := hrel
    have HR := Lib.hid hr
    clear hr
    by_cases hlt : k < s.size
    · cases hd : wc (bt s k)
      · have HX : Hid (tokEnd s a = k) := Lib.hid (by rw [← HR.out, rend_no wc256 hd])
        have HY : Hid (((cls s[k].toNat : Nat) : Int) = 0) := Lib.hid (cls_is hlt 0 (wc_cls0 hd))
        clear hd
        go_wp2_with (first | ((with_reducible refine (classOf_is _ (u8_lt _) _ HY.out _).mono ?_); rintro e w' ⟨rfl, rfl⟩))
        try rw [Exit.noGoto_ret]
        go_ret
        exact ⟨ret_int (by rw [HX.out]), rfl⟩
      · have HD := Lib.hid hd
        rcases wc_cls hd with hx | hx | hx
        · have HY : Hid (((cls s[k].toNat : Nat) : Int) = 1) := Lib.hid (cls_is hlt 1 hx)
          clear hd hx
          go_wp2_with (first | ((with_reducible refine (classOf_is _ (u8_lt _) _ HY.out _).mono ?_); rintro e w' ⟨rfl, rfl⟩))
          go_roundg (s.size - (k + 1))
          case rel => exact ⟨k + 1, by omega, by omega, rfl, by go_num, by rw [← HR.out, ← rend_yes wc256 HD.out], rfl⟩
          case measure => omega
        · have HY : Hid (((cls s[k].toNat : Nat) : Int) = 2) := Lib.hid (cls_is hlt 2 hx)
          clear hd hx
          go_wp2_with (first | ((with_reducible refine (classOf_is _ (u8_lt _) _ HY.out _).mono ?_); rintro e w' ⟨rfl, rfl⟩))
          go_roundg (s.size - (k + 1))
          case rel => exact ⟨k + 1, by omega, by omega, rfl, by go_num, by rw [← HR.out, ← rend_yes wc256 HD.out], rfl⟩
          case measure => omega
        · have HY : Hid (((cls s[k].toNat : Nat) : Int) = 3) := Lib.hid (cls_is hlt 3 hx)
          clear hd hx
          go_wp2_with (first | ((with_reducible refine (classOf_is _ (u8_lt _) _ HY.out _).mono ?_); rintro e w' ⟨rfl, rfl⟩))
          go_roundg (s.size - (k + 1))
          case rel => exact ⟨k + 1, by omega, by omega, rfl, by go_num, by rw [← HR.out, ← rend_yes wc256 HD.out], rfl⟩
          case measure => omega
    · obtain rfl : k = s.size := by omega
      have HX : Hid (tokEnd s a = s.size) := Lib.hid (by rw [← HR.out, rend_no wc256 (by rw [bt_out hlt]; rfl)])
      go_wp2
      try rw [Exit.noGoto_ret]
      go_ret
      exact ⟨ret_int (by rw [HX.out]), rfl⟩
theorem end_any (s : ByteArray) (a B : Nat) (ha : a < s.size) (hs : s.size ≤ maxLen) (w : World) (hT : Tabs w) (hc : w.cell? ⟨B, 0, none⟩ = some (.string s)) :
    Calls Tryd.prog 26 #[.int .i64 a, .pointer (some ⟨B, 0, none⟩)] w (EndPost s a w) := by
  cases h0 : dg (bt s a)
  · cases h1 : lt (bt s a)
    · by_cases h2 : bt s a = 39 ∧ lt (bt s (a + 1)) = true
      · have h3 : a + 1 < s.size := lt_of_bt (by have := lt_iff.1 h2.2; omega)
        exact end_tyvar s a B h3 hs w hc h2.1 h2.2
      · exact end_sign s a B ha hs w hT hc h0 h1 h2
    · exact end_letters s a B ha hs w hc h0 h1
  · exact end_digits s a B ha hs w hc h0

/-! ### Kinds -/
theorem kindM_eq (t : ByteArray) (h0 : 0 < t.size) : ((kindM t : Nat) : Int) = if ((cls t[0].toNat : Nat) : Int) = 1 then 1 else if ((cls t[0].toNat : Nat) : Int) = 3 then 4 else if ((cls t[0].toNat : Nat) : Int) = 0 then 6 else if t.toList = [95] then 6
    else if isKw t.data.toList = true then 5 else if t.toList = [116, 114, 117, 101] ∨ t.toList = [102, 97, 108, 115, 101] ∨ ((65 : Int) ≤ (t[0].toNat : Nat) ∧ ((t[0].toNat : Nat) : Int) ≤ 90) then 3 else 2 := by
  unfold kindM
  rw [ByteArray.toList_eq, ← bt_in h0]
  rcases cls_cases (bt t 0) with ⟨h1, h2⟩ | ⟨h1, h2, h3⟩ | ⟨h1, h2⟩ | ⟨h1, h2, h3, h4⟩
  · rw [h1, if_pos h2]; rfl
  · rw [h1, if_neg (by simp [h2]), if_neg (by have := lt_iff.1 h3; omega), if_neg (by simp [h3])]
    rw [if_neg (show ¬ (((2 : Nat) : Int) = 1) by decide), if_neg (show ¬ (((2 : Nat) : Int) = 3) by decide), if_neg (show ¬ (((2 : Nat) : Int) = 0) by decide)]
    have e : (65 ≤ bt t 0 ∧ bt t 0 ≤ 90) ↔ ((65 : Int) ≤ (bt t 0 : Nat) ∧ ((bt t 0 : Nat) : Int) ≤ 90) := by omega
    simp only [e]
    split
    · rfl
    · split
      · rfl
      · split <;> rfl
  · rw [h2]; rfl
  · rw [h1, if_neg (by simp [h2]), if_neg h4, if_pos h3]; rfl
theorem kindOf_any (t : ByteArray) (h0 : 0 < t.size) (hs : t.size ≤ maxLen) (w : World) (hT : Tabs w) : Calls Tryd.prog 31 #[.string t] w fun e w' => e = .returned (.int .i64 (kindM t : Nat)) ∧ w = w' := by
  have HT := Lib.hid hT
  clear hT
  have hk := kindM_eq t h0
  obtain ⟨x, hx⟩ : ∃ x : Int, ((cls t[0].toNat : Nat) : Int) = x := ⟨_, rfl⟩
  rw [hx] at hk
  have HX := Lib.hid hx
  have HK := Lib.hid hk
  clear hx hk
  go_enter Tryd.func31, Tryd.ntmps31
  go_wp2_with (first | ((with_reducible refine (classOf_is _ (u8_lt _) x HX.out _).mono ?_); rintro e w' ⟨rfl, rfl⟩) | ((with_reducible refine (isKeyword_any _ _ HT.out).mono ?_); rintro e w' ⟨rfl, rfl⟩))
  all_goals go_ret
  all_goals refine ⟨ret_int ?_, rfl⟩
  all_goals rw [HK.out]
  all_goals clear HK HX
  all_goals simp only [beq_iff_eq, beq_eq_false_iff_ne, ne_eq] at *
  all_goals simp [*]
  all_goals first | omega | (simp_all; done) | (simp_all; omega)
end Go.Proofs.YtkogfdbmgdajdaaDoor
