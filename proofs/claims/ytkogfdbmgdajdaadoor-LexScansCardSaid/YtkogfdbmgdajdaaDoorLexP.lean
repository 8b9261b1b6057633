/-
  CONTRACTS OF THE REFERENCE's lexer, IV: one token, the other ways.
-/
import Derived.Test.YtkogfdbmgdajdaaDoorLexO
namespace Go.Proofs.YtkogfdbmgdajdaaDoor
open Go.ChangeShapes Go.WideShapes Go.ChangeAt Go.RowKit
set_option linter.unusedVariables false
theorem word_facts {s : ByteArray} {a : Nat} (ha : a < s.size) (hd : dg (bt s a) = false) (hl : lt (bt s a) = true) : rrun s a = tokEnd s a ∧ a < tokEnd s a ∧ tokEnd s a ≤ s.size := by
  have e : tokEnd s a = rend wc s (a + 1) := by unfold tokEnd; rw [if_neg (by simp [hd]), if_pos (.inl hl)]
  refine ⟨by unfold rrun; rw [if_pos hl, e], by rw [e]; have := (rend_spec (s := s) wc256 (a + 1)).1; omega, tokEnd_le ha⟩
theorem lt_dg {c : Nat} (h : lt c = true) : dg c = false := by rw [dg_false]; have := lt_iff.1 h; omega
theorem isKw_len {l : List UInt8} (h : isKw l = true) : l.length ≤ 9 := kw_small _ (List.contains_iff_mem.1 h)
theorem word_kind {s : ByteArray} {a e0 : Nat} (h1 : a < e0) (h2 : e0 ≤ s.size) (hl : lt (bt s a) = true) (hu : (s.extract a e0).data.toList ≠ [95]) :
    (kindM (s.extract a e0) = 5 ∧ e0 - a ≤ 9) ∨ kindM (s.extract a e0) = 3 ∨ kindM (s.extract a e0) = 2 := by
  have h := kindM_name h1 h2 hl hu
  by_cases hk : isKw (s.extract a e0).data.toList = true
  · rw [if_pos hk] at h
    have := isKw_len hk
    rw [size_toList, ext_size h2] at this
    exact .inl ⟨by omega, this⟩
  · rw [if_neg hk] at h
    split at h
    · exact .inr (.inl (by omega))
    · exact .inr (.inr (by omega))
theorem word_len {s : ByteArray} {a e0 : Nat} (h1 : a < e0) (h2 : e0 ≤ s.size) (hl : lt (bt s a) = true) : nameLen (s.extract a e0) = e0 - a := by
  have hb : bt (s.extract a e0) 0 = bt s a := by rw [bt_ext h2, if_pos (by omega), Nat.add_zero]
  unfold nameLen
  rw [hb, if_neg (by have := lt_iff.1 hl; omega), ext_size h2]
set_option maxHeartbeats 4000000 in
theorem one_word (s : ByteArray) (a : Nat) (g : Bool) (ha : a < s.size) (hs : s.size ≤ maxLen) (hl : lt (bt s a) = true) (hu : (s.extract a (tokEnd s a)).data.toList ≠ [95]) (w : World) :
    Calls Tryd.prog 22 #[.string s, .int .i64 a, .bool g] w (OnePost s a g w) := by
  have hd := lt_dg hl
  obtain ⟨h1, h2, h3⟩ := word_facts ha hd hl
  have hkd := word_kind h2 h3 hl hu
  have hnl := word_len h2 h3 hl
  have hz := ext_size (s := s) (i := a) h3
  have HDI : Hid (dg s[a].toNat = false) := Lib.hid (by rw [← bt_in ha]; exact hd)
  have hun : ((s.extract a (tokEnd s a)).toList == [95]) = false := by rw [ByteArray.toList_eq]; simpa using hu
  have HN := Lib.hid (name_any s a (tokEnd s a) h2 h3 hs hl hu)
  have HS := Lib.hid hs
  unfold maxLen at hs
  by_cases hlong : 32 < tokEnd s a - a
  · have HK : Hid (((tokErr (s.extract a (tokEnd s a)) g : Nat) : Int) = 4) := Lib.hid (by rw [tokErr_name (by omega) (by omega), hnl, if_pos hlong]; rfl)
    have HP : Hid (∀ (w w' : World) , Below w.heap.size w w' → OnePost s a g w (.returned (.tuple #[.agg #[.int .i64 0, .int .i64 0, .string ⟨#[]⟩, .int .i64 0], .int .i64 4])) w') := Lib.hid fun w w' hb => ⟨_, _, _, _, _, rfl, HK.out, (fun h => by cases h), hb⟩
    obtain ⟨E, hE⟩ : ∃ E, tokEnd s a = E := ⟨_, rfl⟩
    rw [hE] at h1 h2 h3 hun hlong
    have H1 := Lib.hid h1
    have hll : (32 : Int) < (E : Int) - a := by omega
    have hal : (a : Int) < E := by omega
    clear h1 hd hkd hnl hz hu hE hlong HK HN
    go_enter Tryd.func22, Tryd.ntmps22
    go_wp2_with (first | ((with_reducible refine (rdigit_is _ (u8_lt _) _ HDI.out _).mono ?_); rintro e w' ⟨rfl, rfl⟩) | ((with_reducible refine (rrun_is s a (by omega) HS.out _ H1.out _).mono ?_); rintro e w' ⟨rfl, rfl⟩))
    exact bodyPost_ret (v := .tuple #[.agg #[.int .i64 0, .int .i64 0, .string ⟨#[]⟩, .int .i64 0], .int .i64 4]) (results_one rfl rfl (heap_new1 _ _)) rfl (HP.out _ _ (below_new _ _))
  · have hkn1 : ¬ kindM (s.extract a (tokEnd s a)) = 1 := by omega
    have HK : Hid (((tokErr (s.extract a (tokEnd s a)) g : Nat) : Int) = 0) := Lib.hid (by
      rcases hkd with ⟨hk, _⟩ | hk | hk
      · rw [tokErr_sign (by omega) (.inl hk)]; rfl
      · rw [tokErr_name (by omega) (.inr (.inl hk)), hnl, if_neg hlong]; rfl
      · rw [tokErr_name (by omega) (.inl hk), hnl, if_neg hlong]; rfl)
    have HP : Hid (∀ (w w' : World) , Below w.heap.size w w' → OnePost s a g w (.returned (.tuple #[.agg #[.int .i64 (kindM (s.extract a (tokEnd s a)) : Nat), .int .i64 a, .string (s.extract a (tokEnd s a)), .int .i64 0], .int .i64 0])) w') :=
      Lib.hid fun w w' hb => ⟨_, _, _, _, _, rfl, HK.out, (fun _ => by unfold tokN; rw [if_neg hkn1]; rfl), hb⟩
    clear hkd hnl hz hu hkn1 hd
    unfold NamePost at HN
    obtain ⟨kk, hkk⟩ : ∃ kk : Int, ((kindM (s.extract a (tokEnd s a)) : Nat) : Int) = kk := ⟨_, rfl⟩
    rw [hkk] at HN HP
    obtain ⟨E, hE⟩ : ∃ E, tokEnd s a = E := ⟨_, rfl⟩
    rw [hE] at h1 h2 h3 hun hlong HN HP
    obtain ⟨y, hy⟩ : ∃ y, s.extract a E = y := ⟨_, rfl⟩
    rw [hy] at hun HN HP
    have H1 := Lib.hid h1
    have hll : ¬ (32 : Int) < (E : Int) - a := by omega
    have hal : (a : Int) < E := by omega
    clear h1 hE hlong HK hkk
    go_enter Tryd.func22, Tryd.ntmps22
    go_wp2_with (first | ((with_reducible refine (rdigit_is _ (u8_lt _) _ HDI.out _).mono ?_); rintro e w' ⟨rfl, rfl⟩) | ((with_reducible refine (rrun_is s a (by omega) HS.out _ H1.out _).mono ?_); rintro e w' ⟨rfl, rfl⟩))
    refine (HN.out _).mono ?_
    rintro e w1 ⟨rfl, hb⟩
    have HR := Lib.hid (row_new hb)
    have HB := Lib.hid (below_then (below_new w _) hb)
    clear hb
    go_wp2_with (refine wpList_store_row rfl 33 _ _ rfl w.heap.size #[.int .i64 kk, .int .i64 a, .string y, .int .i64 0] rfl rfl 33 _ HR.out (tokI _ _ _ _) rfl (one4 _ _ _ _) ?_)
    refine bodyPost_ret (v := .tuple #[.agg #[.int .i64 kk, .int .i64 a, .string y, .int .i64 0], .int .i64 0]) (results_one rfl rfl (setRow_row HR.out)) rfl ?_
    exact HP.out _ _ (below_setRow HB.out (Nat.le_refl _) _)
/-! ### Type variables -/
theorem tyvar_facts {s : ByteArray} {a : Nat} (hb : bt s a = 39) (hl : lt (bt s (a + 1)) = true) : rrun s a = a ∧ rrun s (a + 1) = tokEnd s a ∧ a + 1 < tokEnd s a ∧ tokEnd s a ≤ s.size := by
  have ha1 : a + 1 < s.size := lt_of_bt (by have := lt_iff.1 hl; omega)
  have e : tokEnd s a = rend wc s (a + 1) := by unfold tokEnd; rw [if_neg (by rw [hb]; decide), if_pos (.inr ⟨hb, hl⟩)]
  have hw : wc (bt s (a + 1)) = true := wc_iff.2 (.inr (.inl hl))
  refine ⟨by unfold rrun; rw [if_neg (by rw [hb]; decide)], by unfold rrun; rw [if_pos hl, e, rend_yes wc256 hw], ?_, tokEnd_le (by omega)⟩
  rw [e, rend_yes wc256 hw]
  have := (rend_spec (s := s) wc256 (a + 1 + 1)).1; omega
set_option maxHeartbeats 4000000 in
theorem one_tyvar (s : ByteArray) (a : Nat) (g : Bool) (ha : a < s.size) (hs : s.size ≤ maxLen) (hb : bt s a = 39) (hl : lt (bt s (a + 1)) = true) (w : World) :
    Calls Tryd.prog 22 #[.string s, .int .i64 a, .bool g] w (OnePost s a g w) := by
  obtain ⟨h0, h1, h2, h3⟩ := tyvar_facts hb hl
  have hz := ext_size (s := s) (i := a) h3
  have hb0 : bt (s.extract a (tokEnd s a)) 0 = 39 := by rw [bt_ext h3, if_pos (by omega), Nat.add_zero, hb]
  have hk4 : kindM (s.extract a (tokEnd s a)) = 4 := by unfold kindM; rw [hb0]; rfl
  have hnl : nameLen (s.extract a (tokEnd s a)) = tokEnd s a - a - 1 := by unfold nameLen; rw [if_pos hb0, hz]
  have HDI : Hid (dg s[a].toNat = false) := Lib.hid (by rw [← bt_in ha, hb]; rfl)
  have h39 : ((s[a].toNat : Int) == 39) = true := by rw [← bt_in ha, hb]; rfl
  have HS := Lib.hid hs
  unfold maxLen at hs
  have ha1 : a + 1 ≤ s.size := by omega
  by_cases hlong : 32 < tokEnd s a - a - 1
  · have HK : Hid (((tokErr (s.extract a (tokEnd s a)) g : Nat) : Int) = 4) := Lib.hid (by rw [tokErr_name (by omega) (by omega), hnl, if_pos hlong]; rfl)
    have HP : Hid (∀ (w w' : World) , Below w.heap.size w w' → OnePost s a g w (.returned (.tuple #[.agg #[.int .i64 0, .int .i64 0, .string ⟨#[]⟩, .int .i64 0], .int .i64 4])) w') := Lib.hid fun w w' hb => ⟨_, _, _, _, _, rfl, HK.out, (fun h => by cases h), hb⟩
    obtain ⟨E, hE⟩ : ∃ E, tokEnd s a = E := ⟨_, rfl⟩
    rw [hE] at h1 h2 h3 hlong
    have H0 := Lib.hid h0
    have H1 := Lib.hid h1
    have hll : (32 : Int) < (E : Int) - a - 1 := by omega
    have hal : (a : Int) + 1 < E := by omega
    clear h0 h1 hnl hz hE hlong HK hk4 hb0 hb hl
    go_enter Tryd.func22, Tryd.ntmps22
    go_wp2_with (first | ((with_reducible refine (rdigit_is _ (u8_lt _) _ HDI.out _).mono ?_); rintro e w' ⟨rfl, rfl⟩) | ((with_reducible refine (rrun_is s a (by omega) HS.out _ H0.out _).mono ?_); rintro e w' ⟨rfl, rfl⟩) | (refine (rrun_is s (a + 1) ha1 HS.out _ H1.out _).mono ?_; rintro e w' ⟨rfl, rfl⟩))
    exact bodyPost_ret (v := .tuple #[.agg #[.int .i64 0, .int .i64 0, .string ⟨#[]⟩, .int .i64 0], .int .i64 4]) (results_one rfl rfl (heap_new1 _ _)) rfl (HP.out _ _ (below_new _ _))
  · have HK : Hid (((tokErr (s.extract a (tokEnd s a)) g : Nat) : Int) = 0) := Lib.hid (by rw [tokErr_name (by omega) (by omega), hnl, if_neg hlong]; rfl)
    have HP : Hid (∀ (w w' : World) , Below w.heap.size w w' → OnePost s a g w (.returned (.tuple #[.agg #[.int .i64 4, .int .i64 a, .string (s.extract a (tokEnd s a)), .int .i64 0], .int .i64 0])) w') :=
      Lib.hid fun w w' hb => ⟨_, _, _, _, _, rfl, HK.out, (fun _ => by unfold tokN; rw [hk4, if_neg (by decide)]; rfl), hb⟩
    obtain ⟨E, hE⟩ : ∃ E, tokEnd s a = E := ⟨_, rfl⟩
    rw [hE] at h1 h2 h3 hlong HP
    have H0 := Lib.hid h0
    have H1 := Lib.hid h1
    have hll : ¬ (32 : Int) < (E : Int) - a - 1 := by omega
    have hal : (a : Int) + 1 < E := by omega
    clear h0 h1 hnl hz hE hlong HK hk4 hb0 hb hl
    go_enter Tryd.func22, Tryd.ntmps22
    go_wp2_with (first | ((with_reducible refine (rdigit_is _ (u8_lt _) _ HDI.out _).mono ?_); rintro e w' ⟨rfl, rfl⟩) | ((with_reducible refine (rrun_is s a (by omega) HS.out _ H0.out _).mono ?_); rintro e w' ⟨rfl, rfl⟩) | (refine (rrun_is s (a + 1) ha1 HS.out _ H1.out _).mono ?_; rintro e w' ⟨rfl, rfl⟩))
    exact bodyPost_ret (v := .tuple #[.agg #[.int .i64 4, .int .i64 a, .string (s.extract a E), .int .i64 0], .int .i64 0]) (results_one rfl rfl (heap_new1 _ _)) rfl (HP.out _ _ (below_new _ _))
/-! ### Signs -/
theorem sg_kind : Sgs.all (fun t => kindM (mkS t) == 6) = true := by decide
theorem sg_under : Sgs.all (fun t => t.head? != some 95 || t == [95]) = true := by decide
theorem sg_one : Sgs.all (fun t => decide (0 < t.length)) = true := by decide
/-- The sign at a, and what One says of it. -/
theorem sign_facts {s : ByteArray} {a : Nat} (g : Bool) (ha : a < s.size) (he : tokEnd s a = a + (sy s a).length) :
    (sy s a = [] ∧ tokErr (s.extract a (tokEnd s a)) g = 11) ∨ (sy s a ≠ [] ∧ s.extract a (tokEnd s a) = mkS (sy s a) ∧ kindM (mkS (sy s a)) = 6 ∧ tokErr (s.extract a (tokEnd s a)) g = 0) := by
  obtain ⟨h1, h2, _⟩ := sy_spec s a
  have hp := pre_ext (by omega) h2
  have hle := pre_size (by omega) h2
  rcases h1 with h | h
  · left
    refine ⟨h, ?_⟩
    unfold tokErr
    rw [if_pos]
    rw [ext_size (by omega), he, h]; simp
  · right
    have hne : sy s a ≠ [] := fun h0 => by
      have := List.all_eq_true.1 sg_one _ h
      rw [h0] at this; cases this
    have hk : kindM (mkS (sy s a)) = 6 := by have := List.all_eq_true.1 sg_kind _ h; simpa using this
    have hx : s.extract a (tokEnd s a) = mkS (sy s a) := by rw [he]; exact hp
    refine ⟨hne, hx, hk, ?_⟩
    rw [hx]
    refine tokErr_sign ?_ (.inr hk)
    rw [mkS_size]
    exact List.length_pos_iff.2 hne
theorem sign_is (s : ByteArray) (a : Nat) (ha : a ≤ s.size) (hs : s.size ≤ maxLen) (y : ByteArray) (hy : mkS (sy s a) = y) (w : World) : Calls Tryd.prog 41 #[.string s, .int .i64 a] w fun e w' => e = .returned (.string y) ∧ Below w.heap.size w w' := by
  subst hy; exact sign_any s a ha hs w
set_option maxHeartbeats 8000000 in
/-- One, where the first run that is tried is x1, the second x2, and neither makes a token. -/
theorem one_sign (s : ByteArray) (a : Nat) (g : Bool) (ha : a < s.size) (hs : s.size ≤ maxLen) (hd : dg (bt s a) = false) (he : tokEnd s a = a + (sy s a).length) (x1 x2 : Nat) (hx1 : rrun s a = x1) (hx2 : rrun s (a + 1) = x2)
    (h1 : x1 = a ∨ (a < x1 ∧ x1 ≤ s.size ∧ (s.extract a x1).toList = [95])) (h2 : ¬ (bt s a = 39 ∧ a + 1 < x2)) (w : World) :
    Calls Tryd.prog 22 #[.string s, .int .i64 a, .bool g] w (OnePost s a g w) := by
  have hf := sign_facts g ha he
  have HDI : Hid (dg s[a].toNat = false) := Lib.hid (by rw [← bt_in ha]; exact hd)
  rw [bt_in ha] at h2
  have HS := Lib.hid hs
  unfold maxLen at hs
  have ha1 : a + 1 ≤ s.size := by omega
  have H1 := Lib.hid hx1
  have H2 := Lib.hid hx2
  obtain ⟨y, hy⟩ : ∃ y, mkS (sy s a) = y := ⟨_, rfl⟩
  have HY := Lib.hid hy
  have main : (y.toList = [] ∧ Hid (∀ (w w' : World) , Below w.heap.size w w' → OnePost s a g w (.returned (.tuple #[.agg #[.int .i64 0, .int .i64 0, .string ⟨#[]⟩, .int .i64 0], .int .i64 11])) w')) ∨
      (y.toList.isEmpty = false ∧ Hid (∀ (w w' : World) , Below w.heap.size w w' → OnePost s a g w (.returned (.tuple #[.agg #[.int .i64 6, .int .i64 a, .string y, .int .i64 0], .int .i64 0])) w')) := by
    rcases hf with ⟨h0, hk⟩ | ⟨hne, hx, hk6, hk⟩
    · refine .inl ⟨by rw [← hy, h0, ByteArray.toList_eq]; rfl, Lib.hid fun w w' hb => ⟨_, _, _, _, _, rfl, by rw [hk]; rfl, (fun h => by cases h), hb⟩⟩
    · refine .inr ⟨by rw [← hy, ByteArray.toList_eq, mkS_list]; simpa using hne, Lib.hid fun w w' hb => ⟨_, _, _, _, _, rfl, by rw [hk]; rfl, (fun _ => by rw [hx, hy]; unfold tokN; rw [← hy, hk6, if_neg (by decide)]; rfl), hb⟩⟩
  clear hf hy hx1 hx2 hd he
  rcases h1 with rfl | ⟨h11, h12, h13⟩
  · by_cases h39 : s[x1].toNat = 39
    · have k39 : ((s[x1].toNat : Int) == 39) = true := by simp; omega
      have hx : ¬ (x1 : Int) + 1 < x2 := by omega
      clear h2 h39
      rcases main with ⟨hy, HP⟩ | ⟨hy, HP⟩
      · go_enter Tryd.func22, Tryd.ntmps22
        go_wp2_with (first | ((with_reducible refine (rdigit_is _ (u8_lt _) _ HDI.out _).mono ?_); rintro e w' ⟨rfl, rfl⟩) | ((with_reducible refine (rrun_is s x1 (by omega) HS.out _ H1.out _).mono ?_); rintro e w' ⟨rfl, rfl⟩) | (go_at_call 39; refine (rrun_is s (x1 + 1) ha1 HS.out _ H2.out _).mono ?_; rintro e w' ⟨rfl, rfl⟩) | (go_at_call 41; refine (sign_is s x1 (by omega) HS.out y HY.out _).mono ?_; rintro e w1 ⟨rfl, hb⟩; have HR := Lib.hid (row_new hb); have HB := Lib.hid (below_then (below_new w _) hb); clear hb) | (refine wpList_store_row rfl 33 _ _ rfl w.heap.size #[.int .i64 0, .int .i64 0, .string ⟨#[]⟩, .int .i64 0] rfl rfl 33 _ HR.out (tokI _ _ _ _) rfl (one4 _ _ _ _) ?_))
        refine bodyPost_ret (v := .tuple #[.agg #[.int .i64 0, .int .i64 0, .string ⟨#[]⟩, .int .i64 0], .int .i64 11]) (results_one rfl rfl (setRow_row HR.out)) rfl ?_
        exact HP.out _ _ (below_setRow HB.out (Nat.le_refl _) _)
      · go_enter Tryd.func22, Tryd.ntmps22
        go_wp2_with (first | ((with_reducible refine (rdigit_is _ (u8_lt _) _ HDI.out _).mono ?_); rintro e w' ⟨rfl, rfl⟩) | ((with_reducible refine (rrun_is s x1 (by omega) HS.out _ H1.out _).mono ?_); rintro e w' ⟨rfl, rfl⟩) | (go_at_call 39; refine (rrun_is s (x1 + 1) ha1 HS.out _ H2.out _).mono ?_; rintro e w' ⟨rfl, rfl⟩) | (go_at_call 41; refine (sign_is s x1 (by omega) HS.out y HY.out _).mono ?_; rintro e w1 ⟨rfl, hb⟩; have HR := Lib.hid (row_new hb); have HB := Lib.hid (below_then (below_new w _) hb); clear hb) | (refine wpList_store_row rfl 33 _ _ rfl w.heap.size #[.int .i64 6, .int .i64 x1, .string y, .int .i64 0] rfl rfl 33 _ HR.out (tokI _ _ _ _) rfl (one4 _ _ _ _) ?_))
        refine bodyPost_ret (v := .tuple #[.agg #[.int .i64 6, .int .i64 x1, .string y, .int .i64 0], .int .i64 0]) (results_one rfl rfl (setRow_row HR.out)) rfl ?_
        exact HP.out _ _ (below_setRow HB.out (Nat.le_refl _) _)
    · have k39 : ((s[x1].toNat : Int) == 39) = false := by simp; omega
      clear h2 h39
      rcases main with ⟨hy, HP⟩ | ⟨hy, HP⟩
      · go_enter Tryd.func22, Tryd.ntmps22
        go_wp2_with (first | ((with_reducible refine (rdigit_is _ (u8_lt _) _ HDI.out _).mono ?_); rintro e w' ⟨rfl, rfl⟩) | ((with_reducible refine (rrun_is s x1 (by omega) HS.out _ H1.out _).mono ?_); rintro e w' ⟨rfl, rfl⟩) | (go_at_call 39; refine (rrun_is s (x1 + 1) ha1 HS.out _ H2.out _).mono ?_; rintro e w' ⟨rfl, rfl⟩) | (go_at_call 41; refine (sign_is s x1 (by omega) HS.out y HY.out _).mono ?_; rintro e w1 ⟨rfl, hb⟩; have HR := Lib.hid (row_new hb); have HB := Lib.hid (below_then (below_new w _) hb); clear hb) | (refine wpList_store_row rfl 33 _ _ rfl w.heap.size #[.int .i64 0, .int .i64 0, .string ⟨#[]⟩, .int .i64 0] rfl rfl 33 _ HR.out (tokI _ _ _ _) rfl (one4 _ _ _ _) ?_))
        refine bodyPost_ret (v := .tuple #[.agg #[.int .i64 0, .int .i64 0, .string ⟨#[]⟩, .int .i64 0], .int .i64 11]) (results_one rfl rfl (setRow_row HR.out)) rfl ?_
        exact HP.out _ _ (below_setRow HB.out (Nat.le_refl _) _)
      · go_enter Tryd.func22, Tryd.ntmps22
        go_wp2_with (first | ((with_reducible refine (rdigit_is _ (u8_lt _) _ HDI.out _).mono ?_); rintro e w' ⟨rfl, rfl⟩) | ((with_reducible refine (rrun_is s x1 (by omega) HS.out _ H1.out _).mono ?_); rintro e w' ⟨rfl, rfl⟩) | (go_at_call 39; refine (rrun_is s (x1 + 1) ha1 HS.out _ H2.out _).mono ?_; rintro e w' ⟨rfl, rfl⟩) | (go_at_call 41; refine (sign_is s x1 (by omega) HS.out y HY.out _).mono ?_; rintro e w1 ⟨rfl, hb⟩; have HR := Lib.hid (row_new hb); have HB := Lib.hid (below_then (below_new w _) hb); clear hb) | (refine wpList_store_row rfl 33 _ _ rfl w.heap.size #[.int .i64 6, .int .i64 x1, .string y, .int .i64 0] rfl rfl 33 _ HR.out (tokI _ _ _ _) rfl (one4 _ _ _ _) ?_))
        refine bodyPost_ret (v := .tuple #[.agg #[.int .i64 6, .int .i64 x1, .string y, .int .i64 0], .int .i64 0]) (results_one rfl rfl (setRow_row HR.out)) rfl ?_
        exact HP.out _ _ (below_setRow HB.out (Nat.le_refl _) _)
  · obtain ⟨z, hz⟩ : ∃ z, s.extract a x1 = z := ⟨_, rfl⟩
    rw [hz] at h13
    have hz1 : (z.toList == [95]) = true := by simp [h13]
    clear h13
    have h39 : s[a].toNat ≠ 39 ∨ s[a].toNat = 39 := by omega
    rcases h39 with h39 | h39
    · have k39 : ((s[a].toNat : Int) == 39) = false := by simp; omega
      clear h2 h39
      rcases main with ⟨hy, HP⟩ | ⟨hy, HP⟩
      · go_enter Tryd.func22, Tryd.ntmps22
        go_wp2_with (first | ((with_reducible refine (rdigit_is _ (u8_lt _) _ HDI.out _).mono ?_); rintro e w' ⟨rfl, rfl⟩) | ((with_reducible refine (rrun_is s a (by omega) HS.out _ H1.out _).mono ?_); rintro e w' ⟨rfl, rfl⟩) | (go_at_call 39; refine (rrun_is s (a + 1) ha1 HS.out _ H2.out _).mono ?_; rintro e w' ⟨rfl, rfl⟩) | (go_at_call 41; refine (sign_is s a (by omega) HS.out y HY.out _).mono ?_; rintro e w1 ⟨rfl, hb⟩; have HR := Lib.hid (row_new hb); have HB := Lib.hid (below_then (below_new w _) hb); clear hb) | (refine wpList_store_row rfl 33 _ _ rfl w.heap.size #[.int .i64 0, .int .i64 0, .string ⟨#[]⟩, .int .i64 0] rfl rfl 33 _ HR.out (tokI _ _ _ _) rfl (one4 _ _ _ _) ?_))
        refine bodyPost_ret (v := .tuple #[.agg #[.int .i64 0, .int .i64 0, .string ⟨#[]⟩, .int .i64 0], .int .i64 11]) (results_one rfl rfl (setRow_row HR.out)) rfl ?_
        exact HP.out _ _ (below_setRow HB.out (Nat.le_refl _) _)
      · go_enter Tryd.func22, Tryd.ntmps22
        go_wp2_with (first | ((with_reducible refine (rdigit_is _ (u8_lt _) _ HDI.out _).mono ?_); rintro e w' ⟨rfl, rfl⟩) | ((with_reducible refine (rrun_is s a (by omega) HS.out _ H1.out _).mono ?_); rintro e w' ⟨rfl, rfl⟩) | (go_at_call 39; refine (rrun_is s (a + 1) ha1 HS.out _ H2.out _).mono ?_; rintro e w' ⟨rfl, rfl⟩) | (go_at_call 41; refine (sign_is s a (by omega) HS.out y HY.out _).mono ?_; rintro e w1 ⟨rfl, hb⟩; have HR := Lib.hid (row_new hb); have HB := Lib.hid (below_then (below_new w _) hb); clear hb) | (refine wpList_store_row rfl 33 _ _ rfl w.heap.size #[.int .i64 6, .int .i64 a, .string y, .int .i64 0] rfl rfl 33 _ HR.out (tokI _ _ _ _) rfl (one4 _ _ _ _) ?_))
        refine bodyPost_ret (v := .tuple #[.agg #[.int .i64 6, .int .i64 a, .string y, .int .i64 0], .int .i64 0]) (results_one rfl rfl (setRow_row HR.out)) rfl ?_
        exact HP.out _ _ (below_setRow HB.out (Nat.le_refl _) _)
    · have k39 : ((s[a].toNat : Int) == 39) = true := by simp; omega
      have hx : ¬ (a : Int) + 1 < x2 := by omega
      clear h2 h39
      rcases main with ⟨hy, HP⟩ | ⟨hy, HP⟩
      · go_enter Tryd.func22, Tryd.ntmps22
        go_wp2_with (first | ((with_reducible refine (rdigit_is _ (u8_lt _) _ HDI.out _).mono ?_); rintro e w' ⟨rfl, rfl⟩) | ((with_reducible refine (rrun_is s a (by omega) HS.out _ H1.out _).mono ?_); rintro e w' ⟨rfl, rfl⟩) | (go_at_call 39; refine (rrun_is s (a + 1) ha1 HS.out _ H2.out _).mono ?_; rintro e w' ⟨rfl, rfl⟩) | (go_at_call 41; refine (sign_is s a (by omega) HS.out y HY.out _).mono ?_; rintro e w1 ⟨rfl, hb⟩; have HR := Lib.hid (row_new hb); have HB := Lib.hid (below_then (below_new w _) hb); clear hb) | (refine wpList_store_row rfl 33 _ _ rfl w.heap.size #[.int .i64 0, .int .i64 0, .string ⟨#[]⟩, .int .i64 0] rfl rfl 33 _ HR.out (tokI _ _ _ _) rfl (one4 _ _ _ _) ?_))
        refine bodyPost_ret (v := .tuple #[.agg #[.int .i64 0, .int .i64 0, .string ⟨#[]⟩, .int .i64 0], .int .i64 11]) (results_one rfl rfl (setRow_row HR.out)) rfl ?_
        exact HP.out _ _ (below_setRow HB.out (Nat.le_refl _) _)
      · go_enter Tryd.func22, Tryd.ntmps22
        go_wp2_with (first | ((with_reducible refine (rdigit_is _ (u8_lt _) _ HDI.out _).mono ?_); rintro e w' ⟨rfl, rfl⟩) | ((with_reducible refine (rrun_is s a (by omega) HS.out _ H1.out _).mono ?_); rintro e w' ⟨rfl, rfl⟩) | (go_at_call 39; refine (rrun_is s (a + 1) ha1 HS.out _ H2.out _).mono ?_; rintro e w' ⟨rfl, rfl⟩) | (go_at_call 41; refine (sign_is s a (by omega) HS.out y HY.out _).mono ?_; rintro e w1 ⟨rfl, hb⟩; have HR := Lib.hid (row_new hb); have HB := Lib.hid (below_then (below_new w _) hb); clear hb) | (refine wpList_store_row rfl 33 _ _ rfl w.heap.size #[.int .i64 6, .int .i64 a, .string y, .int .i64 0] rfl rfl 33 _ HR.out (tokI _ _ _ _) rfl (one4 _ _ _ _) ?_))
        refine bodyPost_ret (v := .tuple #[.agg #[.int .i64 6, .int .i64 a, .string y, .int .i64 0], .int .i64 0]) (results_one rfl rfl (setRow_row HR.out)) rfl ?_
        exact HP.out _ _ (below_setRow HB.out (Nat.le_refl _) _)
end Go.Proofs.YtkogfdbmgdajdaaDoor
