/-
  CONTRACTS OF THE REFERENCE's lexer, III: numbers, one token.
-/
import Derived.Test.YtkogfdbmgdajdaaDoorLexN
import Derived.Test.YtkogfdbmgdajdaaDoorLexD
namespace Go.Proofs.YtkogfdbmgdajdaaDoor
open Go.ChangeShapes Go.WideShapes Go.ChangeAt Go.RowKit
set_option linter.unusedVariables false
def cap40 (n : Nat) : Nat := min n 1099511627776
theorem cap40_step (n d : Nat) : cap40 (10 * n + d) = min (10 * cap40 n + d) 1099511627776 := by unfold cap40; omega
theorem vl_ext {s : ByteArray} {a e : Nat} (he : e ≤ s.size) : ∀ k, k ≤ e - a → vl (s.extract a e) 0 k = vl s a k
  | 0, _ => rfl
  | k + 1, h => by
    simp only [vl]
    rw [vl_ext he k (by omega), Nat.zero_add, bt_ext he, if_pos (by omega)]
theorem kind_digit {s : ByteArray} {a e : Nat} (h1 : a < e) (h2 : e ≤ s.size) (hd : dg (bt s a) = true) : kindM (s.extract a e) = 1 := by
  have hb : bt (s.extract a e) 0 = bt s a := by rw [bt_ext h2, if_pos (by omega), Nat.add_zero]
  unfold kindM
  rw [hb, if_pos hd]
/-- What One returns; number too. -/
def OnePost (s : ByteArray) (a : Nat) (g : Bool) (w : World) (e : Ending) (w' : World) : Prop :=
  ∃ (K a' n : Int) (y : ByteArray) (k : Int), e = .returned (.tuple #[.agg #[.int .i64 K, .int .i64 a', .string y, .int .i64 n], .int .i64 k]) ∧ ((tokErr (s.extract a (tokEnd s a)) g : Nat) : Int) = k ∧
    (k = 0 → (#[.int .i64 K, .int .i64 a', .string y, .int .i64 n] : Array Value) = #[.int .i64 (kindM (s.extract a (tokEnd s a)) : Nat), .int .i64 a, .string (s.extract a (tokEnd s a)), .int .i64 (tokN (s.extract a (tokEnd s a)) : Nat)]) ∧ Below w.heap.size w w'
theorem num_facts {s : ByteArray} {a : Nat} (ha : a < s.size) (hd : dg (bt s a) = true) : a < tokEnd s a ∧ tokEnd s a ≤ s.size ∧ tokEnd s a = rend dg s a := by
  have h := tokEnd_le ha
  have e : tokEnd s a = rend dg s (a + 1) := by unfold tokEnd; rw [if_pos hd]
  have := (rend_spec (s := s) dg256 (a + 1)).1
  exact ⟨by omega, h, by rw [e, ← rend_yes dg256 hd]⟩
set_option maxHeartbeats 4000000 in
theorem number_loop (s : ByteArray) (a : Nat) (g : Bool) (ha : a < s.size) (hs : s.size ≤ maxLen) (hd : dg (bt s a) = true) (w : World)
    (E : Nat) (hE : tokEnd s a = E) (v : Nat) (hv : cap40 (vl s a (E - a)) = v) (k : Int) (hk : ((tokErr (s.extract a E) g : Nat) : Int) = k)
    (hcase : ((k = 13 ∧ a + 1 < E ∧ s[a].toNat = 48) ∨ (k = 13 ∧ ¬ (a + 1 < E ∧ s[a].toNat = 48) ∧ 1073741824 < v) ∨ (k = 13 ∧ ¬ (a + 1 < E ∧ s[a].toNat = 48) ∧ v = 1073741824 ∧ g = false) ∨
      (k = 0 ∧ ¬ (a + 1 < E ∧ s[a].toNat = 48) ∧ v = 1073741824 ∧ g = true) ∨ (k = 0 ∧ ¬ (a + 1 < E ∧ s[a].toNat = 48) ∧ v < 1073741824))) :
    Calls Tryd.prog 38 #[.string s, .int .i64 a, .bool g] w fun e w' => e = .returned (.tuple #[.agg #[.int .i64 1, .int .i64 a, .string (s.extract a E), .int .i64 v], .int .i64 k]) ∧ Below w.heap.size w w' := by
  obtain ⟨h1, h2, h3⟩ := num_facts ha hd
  rw [hE] at h1 h2 h3
  have hs' := hs
  unfold maxLen at hs
  have HE3 := Lib.hid h3
  have HV := Lib.hid hv
  have HC := Lib.hid hcase
  clear hd hE hk hcase h3 hv
  obtain ⟨y, hy⟩ : ∃ y, s.extract a E = y := ⟨_, rfl⟩
  rw [hy]
  go_enter Tryd.func38, Tryd.ntmps38
  go_wp2
  go_loop [8, 9] (fun x z => ∃ i : Nat, a ≤ i ∧ i ≤ E ∧ x = .int .i64 i ∧ z = .int .i64 (cap40 (vl s a (i - a)) : Nat) ∧ rend dg s i = E) (fun x _ => s.size - (intOf x).toNat)
  case atStart => exact ⟨a, Nat.le_refl _, by omega, rfl, by rw [Nat.sub_self]; rfl, HE3.out.symm⟩
  case round =>
    obtain ⟨i, hai, hiE, rfl, rfl, hr⟩ := hrel
    have HR := Lib.hid hr
    clear hr
    by_cases hlt : i < s.size
    · cases hdi : dg (bt s i)
      · have HX : Hid (i = E) := Lib.hid (by rw [← HR.out, rend_no dg256 hdi])
        have HDI : Hid (dg s[i].toNat = false) := Lib.hid (by rw [← bt_in hlt]; exact hdi)
        clear hdi
        have hx := HX.out
        subst hx
        have hvv := HV.out
        have hcase := HC.out
        generalize cap40 (vl s a (i - a)) = u at *
        subst hvv
        clear HV HC HR HE3 HX
        rcases hcase with ⟨rfl, c1, c2⟩ | ⟨rfl, c1, c2⟩ | ⟨rfl, c1, c2, c3⟩ | ⟨rfl, c1, c2, c3⟩ | ⟨rfl, c1, c2⟩
        · have j1 : (1 : Int) < (i : Int) - a := by omega
          have j2 : ((s[a].toNat : Int) == 48) = true := by simp; omega
          clear c1 c2
          go_wp2_with ((with_reducible refine (rdigit_is _ (u8_lt _) _ HDI.out _).mono ?_; rintro e w' ⟨rfl, rfl⟩))
          exact bodyPost_ret (v := .tuple #[.agg #[.int .i64 1, .int .i64 a, .string y, .int .i64 u], .int .i64 13]) (by simp [results, Tryd.results38, go_sem]) rfl ⟨rfl, tok_two _ _ _⟩
        · by_cases j1 : a + 1 < i
          · have j1' : (1 : Int) < (i : Int) - a := by omega
            have j2 : ((s[a].toNat : Int) == 48) = false := by simp; omega
            have j3 : (1073741824 : Int) < u := by omega
            clear c1 j1
            go_wp2_with ((with_reducible refine (rdigit_is _ (u8_lt _) _ HDI.out _).mono ?_; rintro e w' ⟨rfl, rfl⟩))
            exact bodyPost_ret (v := .tuple #[.agg #[.int .i64 1, .int .i64 a, .string y, .int .i64 u], .int .i64 13]) (by simp [results, Tryd.results38, go_sem]) rfl ⟨rfl, tok_two _ _ _⟩
          · have j1' : ¬ (1 : Int) < (i : Int) - a := by omega
            have j3 : (1073741824 : Int) < u := by omega
            clear c1 j1
            go_wp2_with ((with_reducible refine (rdigit_is _ (u8_lt _) _ HDI.out _).mono ?_; rintro e w' ⟨rfl, rfl⟩))
            exact bodyPost_ret (v := .tuple #[.agg #[.int .i64 1, .int .i64 a, .string y, .int .i64 u], .int .i64 13]) (by simp [results, Tryd.results38, go_sem]) rfl ⟨rfl, tok_two _ _ _⟩
        · by_cases j1 : a + 1 < i
          · have j1' : (1 : Int) < (i : Int) - a := by omega
            have j2 : ((s[a].toNat : Int) == 48) = false := by simp; omega
            subst c2
            subst c3
            clear c1 j1
            go_wp2_with ((with_reducible refine (rdigit_is _ (u8_lt _) _ HDI.out _).mono ?_; rintro e w' ⟨rfl, rfl⟩))
            exact bodyPost_ret (v := .tuple #[.agg #[.int .i64 1, .int .i64 a, .string y, .int .i64 1073741824], .int .i64 13]) (by simp [results, Tryd.results38, go_sem]) rfl ⟨rfl, tok_two _ _ _⟩
          · have j1' : ¬ (1 : Int) < (i : Int) - a := by omega
            subst c2
            subst c3
            clear c1 j1
            go_wp2_with ((with_reducible refine (rdigit_is _ (u8_lt _) _ HDI.out _).mono ?_; rintro e w' ⟨rfl, rfl⟩))
            exact bodyPost_ret (v := .tuple #[.agg #[.int .i64 1, .int .i64 a, .string y, .int .i64 1073741824], .int .i64 13]) (by simp [results, Tryd.results38, go_sem]) rfl ⟨rfl, tok_two _ _ _⟩
        · by_cases j1 : a + 1 < i
          · have j1' : (1 : Int) < (i : Int) - a := by omega
            have j2 : ((s[a].toNat : Int) == 48) = false := by simp; omega
            subst c2
            subst c3
            clear c1 j1
            go_wp2_with ((with_reducible refine (rdigit_is _ (u8_lt _) _ HDI.out _).mono ?_; rintro e w' ⟨rfl, rfl⟩))
            exact bodyPost_ret (v := .tuple #[.agg #[.int .i64 1, .int .i64 a, .string y, .int .i64 1073741824], .int .i64 0]) (by simp [results, Tryd.results38, go_sem]) rfl ⟨rfl, tok_two _ _ _⟩
          · have j1' : ¬ (1 : Int) < (i : Int) - a := by omega
            subst c2
            subst c3
            clear c1 j1
            go_wp2_with ((with_reducible refine (rdigit_is _ (u8_lt _) _ HDI.out _).mono ?_; rintro e w' ⟨rfl, rfl⟩))
            exact bodyPost_ret (v := .tuple #[.agg #[.int .i64 1, .int .i64 a, .string y, .int .i64 1073741824], .int .i64 0]) (by simp [results, Tryd.results38, go_sem]) rfl ⟨rfl, tok_two _ _ _⟩
        · by_cases j1 : a + 1 < i
          · have j1' : (1 : Int) < (i : Int) - a := by omega
            have j2 : ((s[a].toNat : Int) == 48) = false := by simp; omega
            have j3 : ¬ (1073741824 : Int) < u := by omega
            have j4 : ((u : Int) == 1073741824) = false := by simp; omega
            clear c1 j1
            go_wp2_with ((with_reducible refine (rdigit_is _ (u8_lt _) _ HDI.out _).mono ?_; rintro e w' ⟨rfl, rfl⟩))
            exact bodyPost_ret (v := .tuple #[.agg #[.int .i64 1, .int .i64 a, .string y, .int .i64 u], .int .i64 0]) (by simp [results, Tryd.results38, go_sem]) rfl ⟨rfl, tok_two _ _ _⟩
          · have j1' : ¬ (1 : Int) < (i : Int) - a := by omega
            have j3 : ¬ (1073741824 : Int) < u := by omega
            have j4 : ((u : Int) == 1073741824) = false := by simp; omega
            clear c1 j1
            go_wp2_with ((with_reducible refine (rdigit_is _ (u8_lt _) _ HDI.out _).mono ?_; rintro e w' ⟨rfl, rfl⟩))
            exact bodyPost_ret (v := .tuple #[.agg #[.int .i64 1, .int .i64 a, .string y, .int .i64 u], .int .i64 0]) (by simp [results, Tryd.results38, go_sem]) rfl ⟨rfl, tok_two _ _ _⟩
      · have h10 := dg_iff.1 hdi
        rw [bt_in hlt] at h10
        have HDI : Hid (dg s[i].toNat = true) := Lib.hid (by rw [← bt_in hlt]; exact hdi)
        have HN : Hid (rend dg s (i + 1) = E) := Lib.hid (by rw [← rend_yes dg256 hdi]; exact HR.out)
        have hiE2 : i + 1 ≤ E := by rw [← HN.out]; exact (rend_spec (s := s) dg256 (i + 1)).1
        have hc : cap40 (vl s a (i - a)) ≤ 1099511627776 := Nat.min_le_right _ _
        have HST : Hid (cap40 (vl s a (i + 1 - a)) = min (10 * cap40 (vl s a (i - a)) + (s[i].toNat - 48)) 1099511627776) := Lib.hid (by
          rw [← cap40_step, show i + 1 - a = (i - a) + 1 by omega]
          simp only [vl]
          rw [show a + (i - a) = i by omega, bt_in hlt])
        clear hdi
        generalize cap40 (vl s a (i - a)) = u at *
        go_wp2_with (first | ((with_reducible refine (rdigit_is _ (u8_lt _) _ HDI.out _).mono ?_); rintro e w' ⟨rfl, rfl⟩))
        go_round
        case rel => exact ⟨i + 1, by omega, hiE2, by go_num, by rw [HST.out]; congr 1; omega, HN.out⟩
        case measure => simp [intOf]; omega
    · have HX : Hid (i = E) := Lib.hid (by omega)
      have hx := HX.out
      subst hx
      have hvv := HV.out
      have hcase := HC.out
      generalize cap40 (vl s a (i - a)) = u at *
      subst hvv
      clear HV HC HR HE3 HX
      rcases hcase with ⟨rfl, c1, c2⟩ | ⟨rfl, c1, c2⟩ | ⟨rfl, c1, c2, c3⟩ | ⟨rfl, c1, c2, c3⟩ | ⟨rfl, c1, c2⟩
      · have j1 : (1 : Int) < (i : Int) - a := by omega
        have j2 : ((s[a].toNat : Int) == 48) = true := by simp; omega
        clear c1 c2
        go_wp2
        exact bodyPost_ret (v := .tuple #[.agg #[.int .i64 1, .int .i64 a, .string y, .int .i64 u], .int .i64 13]) (by simp [results, Tryd.results38, go_sem]) rfl ⟨rfl, tok_two _ _ _⟩
      · by_cases j1 : a + 1 < i
        · have j1' : (1 : Int) < (i : Int) - a := by omega
          have j2 : ((s[a].toNat : Int) == 48) = false := by simp; omega
          have j3 : (1073741824 : Int) < u := by omega
          clear c1 j1
          go_wp2
          exact bodyPost_ret (v := .tuple #[.agg #[.int .i64 1, .int .i64 a, .string y, .int .i64 u], .int .i64 13]) (by simp [results, Tryd.results38, go_sem]) rfl ⟨rfl, tok_two _ _ _⟩
        · have j1' : ¬ (1 : Int) < (i : Int) - a := by omega
          have j3 : (1073741824 : Int) < u := by omega
          clear c1 j1
          go_wp2
          exact bodyPost_ret (v := .tuple #[.agg #[.int .i64 1, .int .i64 a, .string y, .int .i64 u], .int .i64 13]) (by simp [results, Tryd.results38, go_sem]) rfl ⟨rfl, tok_two _ _ _⟩
      · by_cases j1 : a + 1 < i
        · have j1' : (1 : Int) < (i : Int) - a := by omega
          have j2 : ((s[a].toNat : Int) == 48) = false := by simp; omega
          subst c2
          subst c3
          clear c1 j1
          go_wp2
          exact bodyPost_ret (v := .tuple #[.agg #[.int .i64 1, .int .i64 a, .string y, .int .i64 1073741824], .int .i64 13]) (by simp [results, Tryd.results38, go_sem]) rfl ⟨rfl, tok_two _ _ _⟩
        · have j1' : ¬ (1 : Int) < (i : Int) - a := by omega
          subst c2
          subst c3
          clear c1 j1
          go_wp2
          exact bodyPost_ret (v := .tuple #[.agg #[.int .i64 1, .int .i64 a, .string y, .int .i64 1073741824], .int .i64 13]) (by simp [results, Tryd.results38, go_sem]) rfl ⟨rfl, tok_two _ _ _⟩
      · by_cases j1 : a + 1 < i
        · have j1' : (1 : Int) < (i : Int) - a := by omega
          have j2 : ((s[a].toNat : Int) == 48) = false := by simp; omega
          subst c2
          subst c3
          clear c1 j1
          go_wp2
          exact bodyPost_ret (v := .tuple #[.agg #[.int .i64 1, .int .i64 a, .string y, .int .i64 1073741824], .int .i64 0]) (by simp [results, Tryd.results38, go_sem]) rfl ⟨rfl, tok_two _ _ _⟩
        · have j1' : ¬ (1 : Int) < (i : Int) - a := by omega
          subst c2
          subst c3
          clear c1 j1
          go_wp2
          exact bodyPost_ret (v := .tuple #[.agg #[.int .i64 1, .int .i64 a, .string y, .int .i64 1073741824], .int .i64 0]) (by simp [results, Tryd.results38, go_sem]) rfl ⟨rfl, tok_two _ _ _⟩
      · by_cases j1 : a + 1 < i
        · have j1' : (1 : Int) < (i : Int) - a := by omega
          have j2 : ((s[a].toNat : Int) == 48) = false := by simp; omega
          have j3 : ¬ (1073741824 : Int) < u := by omega
          have j4 : ((u : Int) == 1073741824) = false := by simp; omega
          clear c1 j1
          go_wp2
          exact bodyPost_ret (v := .tuple #[.agg #[.int .i64 1, .int .i64 a, .string y, .int .i64 u], .int .i64 0]) (by simp [results, Tryd.results38, go_sem]) rfl ⟨rfl, tok_two _ _ _⟩
        · have j1' : ¬ (1 : Int) < (i : Int) - a := by omega
          have j3 : ¬ (1073741824 : Int) < u := by omega
          have j4 : ((u : Int) == 1073741824) = false := by simp; omega
          clear c1 j1
          go_wp2
          exact bodyPost_ret (v := .tuple #[.agg #[.int .i64 1, .int .i64 a, .string y, .int .i64 u], .int .i64 0]) (by simp [results, Tryd.results38, go_sem]) rfl ⟨rfl, tok_two _ _ _⟩
theorem number_any (s : ByteArray) (a : Nat) (g : Bool) (ha : a < s.size) (hs : s.size ≤ maxLen) (hd : dg (bt s a) = true) (w : World) :
    Calls Tryd.prog 38 #[.string s, .int .i64 a, .bool g] w (OnePost s a g w) := by
  obtain ⟨h1, h2, h3⟩ := num_facts ha hd
  have hkm := kind_digit h1 h2 hd
  have hz := ext_size (s := s) (i := a) h2
  have hv := vl_ext (s := s) (a := a) h2 (tokEnd s a - a) (Nat.le_refl _)
  have hb : bt (s.extract a (tokEnd s a)) 0 = s[a].toNat := by rw [bt_ext h2, if_pos (by omega), Nat.add_zero, bt_in ha]
  have he := tokErr_num (g := g) (by rw [hz]; omega) hkm
  rw [hz, hv, hb] at he
  refine (number_loop s a g ha hs hd w _ rfl _ rfl _ rfl ?_).mono ?_
  · rw [he]
    by_cases c1 : a + 1 < tokEnd s a ∧ s[a].toNat = 48
    · rw [if_pos (.inl ⟨by omega, c1.2⟩)]; exact .inl ⟨rfl, c1⟩
    · rcases Nat.lt_trichotomy (vl s a (tokEnd s a - a)) 1073741824 with h | h | h
      · rw [if_neg (by omega)]
        exact .inr (.inr (.inr (.inr ⟨rfl, c1, by unfold cap40; omega⟩)))
      · cases hg : g
        · rw [if_pos (.inr (.inr ⟨h, rfl⟩))]
          exact .inr (.inr (.inl ⟨rfl, c1, by rw [h]; rfl, rfl⟩))
        · rw [if_neg (by simp; omega)]
          exact .inr (.inr (.inr (.inl ⟨rfl, c1, by rw [h]; rfl, rfl⟩)))
      · rw [if_pos (.inr (.inl h))]
        exact .inr (.inl ⟨rfl, c1, by unfold cap40; omega⟩)
  · rintro e w' ⟨rfl, hb'⟩
    refine ⟨1, a, _, _, _, rfl, rfl, fun h0 => ?_, hb'⟩
    have hle : vl s a (tokEnd s a - a) ≤ 1073741824 := by
      rw [he] at h0
      refine Nat.le_of_not_lt fun h => ?_
      rw [if_pos (.inr (.inl h))] at h0
      cases h0
    have hn : tokN (s.extract a (tokEnd s a)) = cap40 (vl s a (tokEnd s a - a)) := by
      unfold tokN; rw [if_pos hkm, hz, hv]; unfold cap40; omega
    rw [hkm, hn]; rfl

/-! ### One -/
theorem rrun_is (s : ByteArray) (a : Nat) (ha : a ≤ s.size) (hs : s.size ≤ maxLen) (x : Nat) (hx : rrun s a = x) (w : World) : Calls Tryd.prog 39 #[.string s, .int .i64 a] w fun e w' => e = .returned (.int .i64 (x : Nat)) ∧ w = w' := by
  subst hx; exact rrun_any s a ha hs w
def tok0 : Array Value := #[.int .i64 0, .int .i64 0, .string ⟨#[]⟩, .int .i64 0]
theorem row_new {w w1 : World} {o : Obj} (hb : Below (w.alloc o).heap.size (w.alloc o) w1) : w1.heap[w.heap.size]? = some o := by
  rw [hb.block _ (by simp)]; exact heap_new1 _ _
theorem results_one {tmps : Array Value} {w : World} {g : Nat} {v x y z n : Value} (hv : tmps.getD 7 undef = v) (hp : tmps.getD 6 undef = .pointer (some ⟨g, 0, none⟩)) (hg : w.heap[g]? = some (.cells #[x, y, z, n] 33 (0, 0))) :
    (results Tryd.f22 tmps).run Tryd.prog w = .ok (.tuple #[.agg #[x, y, z, n], v]) w := by
  have hp' : tmps[6]?.getD undef = .pointer (some ⟨g, 0, none⟩) := by simpa using hp
  have hv' : tmps[7]?.getD undef = v := by simpa using hv
  simp [results, Tryd.f22, hp', hv', asAddr, run_loadVar_row w g 33 33 _ _ _ hg Tryd.underlying33 rfl (tokI x y z n)]
set_option maxHeartbeats 2000000 in
theorem one_digit (s : ByteArray) (a : Nat) (g : Bool) (ha : a < s.size) (hs : s.size ≤ maxLen) (hd : dg (bt s a) = true) (w : World) :
    Calls Tryd.prog 22 #[.string s, .int .i64 a, .bool g] w (OnePost s a g w) := by
  have HD := Lib.hid hd
  have HS := Lib.hid hs
  have HDI : Hid (dg s[a].toNat = true) := Lib.hid (by rw [← bt_in ha]; exact hd)
  unfold maxLen at hs
  clear hd
  go_enter Tryd.func22, Tryd.ntmps22
  go_wp2_with ((with_reducible refine (rdigit_is _ (u8_lt _) _ HDI.out _).mono ?_); rintro e w' ⟨rfl, rfl⟩)
  refine (number_any s a g ha HS.out HD.out _).mono ?_
  rintro e w1 ⟨K, a', n, y, k, rfl, hk, hkn, hb⟩
  have HK := Lib.hid (And.intro hk hkn)
  have HR := Lib.hid (row_new hb)
  have HB := Lib.hid (below_then (below_new w _) hb)
  clear hk hkn hb
  go_wp2_with (refine wpList_store_row rfl 33 _ _ rfl w.heap.size #[.int .i64 K, .int .i64 a', .string y, .int .i64 n] rfl rfl 33 _ HR.out (tokI _ _ _ _) rfl (one4 _ _ _ _) ?_)
  refine bodyPost_ret (v := .tuple #[.agg #[.int .i64 K, .int .i64 a', .string y, .int .i64 n], .int .i64 k]) (results_one rfl rfl (setRow_row HR.out)) rfl ?_
  exact ⟨K, a', n, y, k, rfl, HK.out.1, HK.out.2, below_setRow HB.out (Nat.le_refl _) _⟩
end Go.Proofs.YtkogfdbmgdajdaaDoor
