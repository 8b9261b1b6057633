/-
  PLAIN MATHEMATICS OF lex's LAWS: what is shown of a text's tokens has the same tokens; a text that is cut ahead of its last token has the others; tokens stand in the text in order. Nothing of the program is named here.
-/
import Derived.Test.YtkogfdbmgdajdaaDoorLexM
namespace Go.Proofs.YtkogfdbmgdajdaaDoor
theorem sk_true {s : ByteArray} {i a : Nat} (hi : i ≤ s.size) (h : sk s i = (a, true)) : bl (bt s a) = false ∧ opens s a = false := by
  have := sk_ind (s := s) (fun i r => r.2 = true → bl (bt s r.1) = false ∧ opens s r.1 = false) (fun i _ h1 h2 _ => ⟨h1, h2⟩) (fun i _ _ _ h => by cases h) (fun i r _ h => h) (fun i r _ _ h => h) _ i hi (Nat.le_refl _)
  rw [h] at this
  exact this rfl
theorem sgs_bytes : Sgs.all (fun t => t.all fun c => decide (c ≠ 32) && decide (c ≠ 39)) = true := by decide
theorem sg_byte {t : List UInt8} (h : t ∈ Sgs) {k : Nat} (hk : k < t.length) : t[k].toNat ≠ 32 ∧ t[k].toNat ≠ 39 := by
  have h1 := List.all_eq_true.1 sgs_bytes t h
  have h2 := List.all_eq_true.1 h1 t[k] (List.getElem_mem hk)
  simp only [Bool.and_eq_true, decide_eq_true_eq] at h2
  exact ⟨fun e => h2.1 (UInt8.toNat_inj.1 e), fun e => h2.2 (UInt8.toNat_inj.1 e)⟩
/-- The same bytes, and nothing behind them that would make the token longer: the token ends there too. -/
theorem tokEnd_like {s u : ByteArray} {i j e : Nat} (he : e = tokEnd s i) (hlt : i < e) (hb : ∀ k, k < e - i → bt u (j + k) = bt s (i + k))
    (hw : ∀ p : Nat → Bool, p = dg ∨ p = wc → p (bt s e) = false → p (bt u (j + (e - i))) = false)
    (hs : ∀ t ∈ Sgs, e - i < t.length → pre u j t = true → pre s i t = true) : tokEnd u j = j + (e - i) := by
  have h0 : bt u j = bt s i := by have := hb 0 (by omega); simpa using this
  unfold tokEnd at he ⊢
  rw [h0]
  cases hd : dg (bt s i)
  · rw [hd, if_neg (by simp)] at he
    rw [if_neg (by simp)]
    by_cases hl : lt (bt s i) = true ∨ (bt s i = 39 ∧ lt (bt s (i + 1)) = true)
    · rw [if_pos hl] at he
      obtain ⟨g1, g2, g3⟩ := rend_spec (s := s) wc256 (i + 1)
      rw [← he] at g1 g2 g3
      have hl' : lt (bt s i) = true ∨ (bt s i = 39 ∧ lt (bt u (j + 1)) = true) := by
        rcases hl with hl | ⟨h1, h2⟩
        · exact .inl hl
        · refine .inr ⟨h1, ?_⟩
          by_cases h3 : i + 1 < e
          · have := hb 1 (by omega); rw [this]; exact h2
          · have h4 : e = i + 1 := by omega
            rw [h4] at g3
            rw [wc_iff.2 (.inr (.inl h2))] at g3; cases g3
      rw [if_pos hl']
      refine rend_is wc256 (by omega) (fun k h1 h2 => ?_) (hw wc (.inr rfl) g3)
      have := hb (k - j) (by omega)
      rw [show j + (k - j) = k by omega] at this
      rw [this]
      exact g2 _ (by omega) (by omega)
    · rw [if_neg hl] at he
      obtain ⟨h1, h2, h3⟩ := sy_spec s i
      have hlen : (sy s i).length = e - i := by omega
      have hmem : sy s i ∈ Sgs := h1.resolve_left fun h => by rw [h] at hlen; simp at hlen; omega
      have hc : bt s i ≠ 39 := by
        have h4 := pre_iff.1 h2 0 (by omega)
        have h5 := (sg_byte hmem (k := 0) (by omega)).2
        rw [Nat.add_zero] at h4; omega
      rw [if_neg (fun h => h.elim (fun h => hl (.inl h)) (fun h => hc h.1))]
      obtain ⟨k1, k2, k3⟩ := sy_spec u j
      have hp : pre u j (sy s i) = true := pre_iff.2 fun k hk => by rw [hb k (by omega)]; exact pre_iff.1 h2 k hk
      have h6 := k3 _ hmem hp
      have h7 : (sy u j).length ≤ (sy s i).length := by
        refine Nat.le_of_not_lt fun h => ?_
        have hm : sy u j ∈ Sgs := k1.resolve_left fun h' => by rw [h'] at h; simp at h
        have := h3 _ hm (hs _ hm (by omega) k2)
        omega
      omega
  · rw [hd, if_pos rfl] at he
    rw [if_pos rfl]
    obtain ⟨g1, g2, g3⟩ := rend_spec (s := s) dg256 (i + 1)
    rw [← he] at g1 g2 g3
    refine rend_is dg256 (by omega) (fun k h1 h2 => ?_) (hw dg (.inl rfl) g3)
    have := hb (k - j) (by omega)
    rw [show j + (k - j) = k by omega] at this
    rw [this]
    exact g2 _ (by omega) (by omega)

/-! ### Where tokens stand -/
def en (l : List Tk) : Nat := match l.getLast? with | some t => t.at_.toNat + t.text.size | none => 0
theorem en_snoc (l : List Tk) (t : Tk) : en (l ++ [t]) = t.at_.toNat + t.text.size := by simp [en]
theorem reach_en {s : ByteArray} {i : Nat} {l : List Tk} (h : Reach s i l) : i = en l := by
  cases h with
  | start => rfl
  | step hr h1 =>
    have h2 := one_range (reach_le hr).1 h1
    obtain ⟨a, h3, h4, h5, h6, h7, rfl⟩ := one_tok h1
    have := tokErr_pos h7
    rw [ext_size h2.2] at this
    rw [en_snoc]
    simp only [tokOf]
    rw [ext_size h2.2]
    simp; omega
theorem reach_take {s : ByteArray} {i : Nat} {l : List Tk} (h : Reach s i l) : ∀ k, k ≤ l.length → Reach s (en (l.take k)) (l.take k) ∧ ∀ hk : k < l.length, one s (en (l.take k)) k (neg (l.take k)) = .tok l[k] (en (l.take (k + 1))) := by
  induction h with
  | start => intro k hk; exact ⟨by rw [List.take_nil]; exact .start, fun h => absurd h (Nat.not_lt_zero _)⟩
  | @step i acc t e hr h1 ih =>
    intro k hk
    rw [List.length_append, List.length_singleton] at hk
    by_cases hlt : k < acc.length
    · have ht := (ih k (by omega))
      rw [List.take_append_of_le_length (by omega), List.take_append_of_le_length (by omega)]
      exact ⟨ht.1, fun _ => by rw [List.getElem_append_left hlt]; exact ht.2 hlt⟩
    · by_cases he : k = acc.length
      · subst he
        rw [List.take_append_of_le_length (Nat.le_refl _), List.take_length, List.take_of_length_le (by simp), ← reach_en hr]
        refine ⟨hr, fun _ => ?_⟩
        rw [List.getElem_append_right (Nat.le_refl _), h1, ← reach_en (.step hr h1)]
        simp
      · have he : k = acc.length + 1 := by omega
        subst he
        rw [List.take_of_length_le (by simp)]
        refine ⟨?_, fun h => by simp at h⟩
        rw [← reach_en (.step hr h1)]
        exact .step hr h1
/-- What the law asks of token k. -/
theorem tok_at {s : ByteArray} {i : Nat} {l : List Tk} (h : Reach s i l) {k : Nat} (hk : k < l.length) : ∃ a : Nat, l[k].at_ = a ∧ en (l.take k) ≤ a ∧ 0 < l[k].text.size ∧ a + l[k].text.size ≤ s.size ∧ s.extract a (a + l[k].text.size) = l[k].text ∧ en (l.take (k + 1)) = a + l[k].text.size := by
  obtain ⟨h1, h2⟩ := reach_take h k (by omega)
  have h2 := h2 hk
  have h0 := (reach_le h1).1
  have h3 := one_range h0 h2
  obtain ⟨a, h4, h5, h6, h7, h8, h9⟩ := one_tok h2
  have h10 := sk_range h0
  rw [h4] at h10
  simp only at h10
  have h11 := tokErr_pos h8
  rw [ext_size h3.2] at h11
  rw [h9]
  simp only [tokOf]
  rw [ext_size h3.2]
  refine ⟨a, rfl, h10.1, h11, ?_⟩
  rw [show a + (en (l.take (k + 1)) - a) = en (l.take (k + 1)) by omega]
  exact ⟨h3.2, rfl, rfl⟩

/-! ### What is shown -/
def shA (l : List Tk) : List UInt8 := l.flatMap fun t => 32 :: t.text.data.toList
def sh (l : List Tk) : List UInt8 := (shA l).drop 1
theorem shA_app (l m : List Tk) : shA (l ++ m) = shA l ++ shA m := by simp [shA]
theorem shA_cons (t : Tk) (m : List Tk) : shA (t :: m) = 32 :: (t.text.data.toList ++ shA m) := by simp [shA]
theorem sh_snoc (l : List Tk) (t : Tk) : sh (l ++ [t]) = if l = [] then t.text.data.toList else sh l ++ 32 :: t.text.data.toList := by
  unfold sh
  rw [shA_app, shA_cons]
  cases l with
  | nil => simp [shA]
  | cons x l => rw [shA_cons, if_neg (by simp)]; simp [shA]
theorem sh_len (l : List Tk) : (sh l).length = (shA l).length - 1 := by unfold sh; rw [List.length_drop]
def lb (l : List UInt8) (k : Nat) : Nat := match l[k]? with | some c => c.toNat | none => 256
theorem bt_lb (l : List UInt8) (k : Nat) : bt ⟨l.toArray⟩ k = lb l k := by
  rw [bt_mk]
  unfold lb
  by_cases h : k < l.length
  · rw [dif_pos h, List.getElem?_eq_getElem h]
  · rw [dif_neg h, List.getElem?_eq_none (by omega)]
theorem size_toList (s : ByteArray) : s.data.toList.length = s.size := by rw [Array.length_toList]; rfl
theorem lb_bt (s : ByteArray) (k : Nat) : lb s.data.toList k = bt s k := by
  rw [← bt_lb]
theorem lb_drop (l : List UInt8) (k : Nat) : lb (l.drop 1) k = lb l (k + 1) := by unfold lb; rw [List.getElem?_drop, Nat.add_comm]
theorem lb_left (l m : List UInt8) {k : Nat} (h : k < l.length) : lb (l ++ m) k = lb l k := by unfold lb; rw [List.getElem?_append_left h]
theorem lb_right (l m : List UInt8) (k : Nat) : lb (l ++ m) (l.length + k) = lb m k := by unfold lb; rw [List.getElem?_append_right (by omega), Nat.add_sub_cancel_left]
theorem lb_succ (c : UInt8) (l : List UInt8) (k : Nat) : lb (c :: l) (k + 1) = lb l k := rfl
theorem lb_shA (m : List Tk) : lb (shA m) 0 = 32 ∨ lb (shA m) 0 = 256 := by
  cases m with
  | nil => exact .inr rfl
  | cons t m => rw [shA_cons]; exact .inl rfl
/-- The bytes of what is shown, around a token. -/
theorem show_bytes (acc rest : List Tk) (t : Tk) (u : ByteArray) (hu : u = ⟨(sh (acc ++ t :: rest)).toArray⟩) :
    (∀ k, k < t.text.size → bt u ((shA acc).length + k) = bt t.text k) ∧ (bt u ((shA acc).length + t.text.size) = 32 ∨ bt u ((shA acc).length + t.text.size) = 256) ∧ (0 < (shA acc).length → bt u ((shA acc).length - 1) = 32) := by
  have e : ∀ k, bt u k = lb (shA acc ++ 32 :: (t.text.data.toList ++ shA rest)) (k + 1) := fun k => by
    rw [hu, bt_lb]
    unfold sh
    rw [lb_drop, shA_app, shA_cons]
  refine ⟨fun k hk => ?_, ?_, fun h0 => ?_⟩
  · rw [e, Nat.add_assoc, lb_right, lb_succ, lb_left _ _ (by rw [size_toList]; exact hk), lb_bt]
  · rw [e, Nat.add_assoc, lb_right, lb_succ, ← size_toList, ← Nat.add_zero t.text.data.toList.length, lb_right]
    exact lb_shA rest
  · rw [e, show (shA acc).length - 1 + 1 = (shA acc).length + 0 by omega, lb_right]; rfl
/-- The same tokens, but for their places. -/
def Alike (l m : List Tk) : Prop := l.length = m.length ∧ ∀ k (h : k < l.length) (h' : k < m.length), l[k].kind = m[k].kind ∧ l[k].text = m[k].text ∧ l[k].n = m[k].n
theorem Alike.snoc {l m : List Tk} (h : Alike l m) {t t' : Tk} (h1 : t.kind = t'.kind) (h2 : t.text = t'.text) (h3 : t.n = t'.n) : Alike (l ++ [t]) (m ++ [t']) := by
  refine ⟨by simp [h.1], fun k hk hk' => ?_⟩
  by_cases hl : k < l.length
  · rw [List.getElem_append_left hl, List.getElem_append_left (by have := h.1; omega)]
    exact h.2 k hl _
  · have e : k = l.length := by simp at hk; omega
    subst e
    rw [List.getElem_append_right (Nat.le_refl _), List.getElem_append_right (by have := h.1; omega)]
    have := h.1
    simp [h1, h2, h3]
theorem Alike.neg {l m : List Tk} (h : Alike l m) : neg l = neg m := by
  rcases List.eq_nil_or_concat l with rfl | ⟨l', t, rfl⟩
  · have : m = [] := List.eq_nil_of_length_eq_zero h.1.symm
    rw [this]
  · rcases List.eq_nil_or_concat m with rfl | ⟨m', t', rfl⟩
    · have := h.1; simp at this
    · have h1 := h.1
      simp only [List.length_append, List.length_singleton, List.concat_eq_append] at h1
      have h2 := (h.2 l'.length (by simp) (by simp; omega)).2.1
      have e : l'.length = m'.length := by omega
      simp only [List.concat_eq_append] at h2 ⊢
      rw [List.getElem_append_right (Nat.le_refl _), List.getElem_append_right (by omega)] at h2
      simp only [Nat.sub_self, List.getElem_singleton] at h2
      unfold Go.Proofs.YtkogfdbmgdajdaaDoor.neg
      simp [h2]
theorem one_of {s : ByteArray} {i a c : Nat} {g : Bool} {e : Nat} (h1 : sk s i = (a, true)) (h2 : a ≠ s.size) (h3 : c ≠ 16384) (h4 : e = tokEnd s a) (h5 : tokErr (s.extract a e) g = 0) : one s i c g = .tok (tokOf (s.extract a e) a) e := by
  subst h4
  unfold one
  rw [h1]
  simp only
  rw [if_neg (by simp), if_neg h2, if_neg h3, if_neg (by rw [h5]; simp)]
theorem show_reach {s : ByteArray} {i : Nat} {acc : List Tk} (h : Reach s i acc) : ∀ (rest : List Tk) (u : ByteArray), u = ⟨(sh (acc ++ rest)).toArray⟩ → ∃ acc', Reach u ((shA acc).length - 1) acc' ∧ Alike acc acc' := by
  induction h with
  | start => intro rest u hu; exact ⟨[], .start, rfl, fun k hk => by simp at hk⟩
  | @step i acc t e hr h1 ih =>
    intro rest u hu
    rw [List.append_assoc] at hu
    obtain ⟨acc', hr', ha⟩ := ih (t :: rest) u hu
    obtain ⟨b1, b2, b3⟩ := show_bytes acc rest t u hu
    have hi := (reach_le hr).1
    have h2 := one_range hi h1
    obtain ⟨a, h3, h4, h5, h6, h7, rfl⟩ := one_tok h1
    have h8 := tokErr_pos h7
    have hz := ext_size (s := s) (i := a) h2.2
    simp only [tokOf] at b1 b2
    rw [hz] at b1 b2 h8
    have hb : ∀ k, k < e - a → bt u ((shA acc).length + k) = bt s (a + k) := fun k hk => by rw [b1 k hk, bt_ext h2.2, if_pos hk]
    obtain ⟨hnb, hno⟩ := sk_true hi h3
    have h0 : bt u (shA acc).length = bt s a := by have := hb 0 (by omega); simpa using this
    have hsk0 : sk u (shA acc).length = ((shA acc).length, true) := by
      refine sk_stop (by rw [h0]; exact hnb) ?_
      refine Bool.eq_false_iff.2 fun ho => ?_
      obtain ⟨o1, o2⟩ := opens_iff.1 ho
      by_cases hl : 1 < e - a
      · rw [hb 1 hl] at o2
        rw [h0] at o1
        rw [opens_iff.2 ⟨o1, o2⟩] at hno; cases hno
      · rw [show e - a = 1 by omega] at b2
        omega
    have hsk : sk u ((shA acc).length - 1) = ((shA acc).length, true) := by
      by_cases hp : 0 < (shA acc).length
      · rw [sk_blank (by rw [b3 hp]; rfl), show (shA acc).length - 1 + 1 = (shA acc).length by omega]; exact hsk0
      · rw [show (shA acc).length - 1 = (shA acc).length by omega]; exact hsk0
    have hend : tokEnd u (shA acc).length = (shA acc).length + (e - a) := by
      refine tokEnd_like h6 (by omega) hb (fun p hp _ => ?_) (fun t ht hl hp => ?_)
      · rcases hp with rfl | rfl <;> rcases b2 with h | h <;> rw [h] <;> rfl
      · exfalso
        have h9 := pre_iff.1 hp (e - a) hl
        have h10 := (sg_byte ht hl).1
        have h11 := UInt8.toNat_lt t[e - a]
        omega
    have hlt : (shA acc).length < u.size := lt_of_bt (by rw [h0]; exact bt_lt (by omega))
    have hle : (shA acc).length + (e - a) ≤ u.size := by
      have h9 := hb (e - a - 1) (by omega)
      have := lt_of_bt (s := u) (i := (shA acc).length + (e - a - 1)) (by rw [h9]; exact bt_lt (by omega))
      omega
    have htx : u.extract (shA acc).length ((shA acc).length + (e - a)) = s.extract a e := by
      refine ext_eq_of hle h2.2 (by omega) fun k hk => hb k (by omega)
    have hone := one_of (s := u) (c := acc'.length) (g := neg acc') (e := (shA acc).length + (e - a)) hsk (by omega) (by rw [← ha.1]; exact h5) hend.symm (by rw [htx, ← ha.neg]; exact h7)
    refine ⟨_, ?_, ha.snoc (t' := tokOf (u.extract (shA acc).length ((shA acc).length + (e - a))) (shA acc).length) ?_ ?_ ?_⟩
    · have e1 : (shA (acc ++ [tokOf (s.extract a e) a])).length - 1 = (shA acc).length + (e - a) := by
        rw [shA_app, shA_cons]
        simp only [tokOf, shA, List.flatMap_nil, List.append_nil, List.length_append, List.length_cons, size_toList, hz]
        omega
      rw [e1]
      exact .step hr' hone
    · rw [htx]; rfl
    · rw [htx]; rfl
    · rw [htx]; rfl
theorem shA_small {s : ByteArray} {i : Nat} {acc : List Tk} (h : Reach s i acc) : (shA acc).length ≤ 2 * i := by
  induction h with
  | start => exact Nat.le_refl _
  | step hr h1 ih =>
    have hi := (reach_le hr).1
    have h2 := one_range hi h1
    obtain ⟨a, h3, h4, h5, h6, h7, rfl⟩ := one_tok h1
    have h8 := sk_range hi
    rw [h3] at h8
    have hz := ext_size (s := s) (i := a) h2.2
    rw [shA_app, shA_cons]
    simp only [tokOf, shA, List.flatMap_nil, List.append_nil, List.length_append, List.length_cons, size_toList, hz]
    simp only [shA] at ih
    simp at h8
    omega
theorem show_back {s : ByteArray} {l : List Tk} (hs : s.size ≤ 3000) (h : scanM s = (0, 0, l)) : (sh l).length ≤ 6000 ∧ ∃ m, scanM ⟨(sh l).toArray⟩ = (0, 0, m) ∧ Alike l m := by
  obtain ⟨i, acc, hr, ⟨h1, h2⟩ | ⟨k, a, h1, h2⟩⟩ := scan_reach (s := s) (by omega)
  · rw [h] at h2
    obtain rfl : l = acc := congrArg (·.2.2) h2
    have hi := (reach_le hr).1
    have hsm := shA_small hr
    have hl : (sh l).length ≤ 6000 := by rw [sh_len]; omega
    refine ⟨hl, ?_⟩
    obtain ⟨acc', hr', ha⟩ := show_reach hr [] ⟨(sh l).toArray⟩ (by rw [List.append_nil])
    have hz : (ByteArray.mk (sh l).toArray).size = (shA l).length - 1 := by rw [mk_size, sh_len]
    refine ⟨acc', scan_fin (by omega) hr' ?_, ha⟩
    unfold one
    rw [sk_end (by omega)]
    simp only
    rw [if_neg (by simp), if_pos hz.symm]
  · rw [h] at h2
    injection h2 with h3 h4
    subst h3
    exfalso
    unfold one at h1
    split at h1
    · injection h1 with h1 _; cases h1
    · split at h1
      · cases h1
      · split at h1
        · injection h1 with h1 _; cases h1
        · split at h1
          · rename_i hne; injection h1 with h1 _; exact hne h1
          · cases h1
theorem one_bad {s : ByteArray} {i c : Nat} {g : Bool} {k a : Nat} (hi : i ≤ s.size) (h : one s i c g = .bad k a) : k ≠ 0 ∧ a < s.size := by
  have hr := sk_range hi
  unfold one at h
  split at h
  · rename_i hf
    injection h with h1 h2
    exact ⟨by omega, by rw [← h2]; exact hr.2.2 hf⟩
  · split at h
    · cases h
    · split at h
      · injection h with h1 h2; omega
      · split at h
        · injection h with h1 h2; omega
        · cases h
/-- A short text's error lies within it. -/
theorem scan_err {s : ByteArray} (hs : s.size ≤ 65536) {k a : Nat} {l : List Tk} (h : scanM s = (k, a, l)) : (k = 0 ∧ a = 0) ∨ (k ≠ 0 ∧ a < s.size ∧ l = []) := by
  obtain ⟨i, acc, hr, ⟨h1, h2⟩ | ⟨k', a', h1, h2⟩⟩ := scan_reach hs
  · rw [h] at h2
    injection h2 with h3 h4
    injection h4 with h4 h5
    exact .inl ⟨h3, h4⟩
  · have := one_bad (reach_le hr).1 h1
    rw [h] at h2
    injection h2 with h3 h4
    injection h4 with h4 h5
    subst h3; subst h4
    exact .inr ⟨this.1, this.2, h5⟩
theorem scan_ok {s : ByteArray} (hs : s.size ≤ 65536) {l : List Tk} (h : scanM s = (0, 0, l)) : Reach s (en l) l := by
  obtain ⟨i, acc, hr, ⟨h1, h2⟩ | ⟨k', a', h1, h2⟩⟩ := scan_reach hs
  · rw [h] at h2
    obtain rfl : l = acc := congrArg (·.2.2) h2
    rw [← reach_en hr]; exact hr
  · have := one_bad (reach_le hr).1 h1
    rw [h] at h2
    injection h2 with h3 h4
    exact absurd h3.symm this.1

/-! ### A text that is cut -/
theorem bt_cut {s : ByteArray} {p : Nat} (hp : p ≤ s.size) (k : Nat) : bt (s.extract 0 p) k = if k < p then bt s k else 256 := by
  rw [bt_ext hp, Nat.sub_zero, Nat.zero_add]
theorem cut_in {s : ByteArray} {p k : Nat} (hp : p ≤ s.size) (h : k < p) : bt (s.extract 0 p) k = bt s k := by rw [bt_cut hp, if_pos h]
theorem cut_or {s : ByteArray} {p : Nat} (hp : p ≤ s.size) (k : Nat) : bt (s.extract 0 p) k = bt s k ∨ bt (s.extract 0 p) k = 256 := by
  rw [bt_cut hp]
  split
  · exact .inl rfl
  · exact .inr rfl
theorem opens_cut {s : ByteArray} {p i : Nat} (hp : p ≤ s.size) (h : i + 2 ≤ p) : opens (s.extract 0 p) i = opens s i := by unfold opens; rw [cut_in hp (by omega), cut_in hp (by omega)]
theorem shuts_cut {s : ByteArray} {p i : Nat} (hp : p ≤ s.size) (h : i + 2 ≤ p) : shuts (s.extract 0 p) i = shuts s i := by unfold shuts; rw [cut_in hp (by omega), cut_in hp (by omega)]
theorem opens_cut_no {s : ByteArray} {p i : Nat} (hp : p ≤ s.size) (h : opens s i = false) : opens (s.extract 0 p) i = false := by
  refine Bool.eq_false_iff.2 fun ho => ?_
  obtain ⟨o1, o2⟩ := opens_iff.1 ho
  rcases cut_or hp i with h1 | h1 <;> rcases cut_or hp (i + 1) with h2 | h2
  · rw [h1] at o1; rw [h2] at o2; rw [opens_iff.2 ⟨o1, o2⟩] at h; cases h
  all_goals omega
theorem shuts_cut_no {s : ByteArray} {p i : Nat} (hp : p ≤ s.size) (h : shuts s i = false) : shuts (s.extract 0 p) i = false := by
  refine Bool.eq_false_iff.2 fun ho => ?_
  obtain ⟨o1, o2⟩ := shuts_iff.1 ho
  rcases cut_or hp i with h1 | h1 <;> rcases cut_or hp (i + 1) with h2 | h2
  · rw [h1] at o1; rw [h2] at o2; rw [shuts_iff.2 ⟨o1, o2⟩] at h; cases h
  all_goals omega
theorem cm_cut {s : ByteArray} {p : Nat} (hp : p ≤ s.size) : ∀ (f i d : Nat), s.size - i ≤ f → cm s i d ≠ 0 → cm s i d ≤ p → cm (s.extract 0 p) i d = cm s i d
  | 0, i, d, h, hn, _ => absurd (cm_out (by omega)) hn
  | f + 1, i, d, h, hn, hle => by
    have hz : (s.extract 0 p).size = p := by rw [ext_size hp]; rfl
    have hpos := cm_pos _ _ _ (Nat.le_refl _) hn
    have hi : i < s.size := by omega
    rw [cm_step (s := s.extract 0 p) (i := i) (by rw [hz]; omega), cm_step hi, opens_cut hp (by omega), shuts_cut hp (by omega)]
    rw [cm_step hi] at hn hle
    split
    · rename_i ho
      rw [if_pos ho] at hn hle
      exact cm_cut hp f _ _ (by omega) hn hle
    · rename_i ho
      rw [if_neg ho] at hn hle
      split
      · rename_i hs
        rw [if_pos hs] at hn hle
        split
        · rfl
        · rename_i hd
          rw [if_neg hd] at hn hle
          exact cm_cut hp f _ _ (by omega) hn hle
      · rename_i hs
        rw [if_neg hs] at hn hle
        exact cm_cut hp f _ _ (by omega) hn hle
theorem sk_cut {s : ByteArray} {p : Nat} (hp : p ≤ s.size) {i a : Nat} (hi : i ≤ s.size) (h : sk s i = (a, true)) (ha : a ≤ p) : sk (s.extract 0 p) i = (a, true) := by
  have := sk_ind (s := s) (fun i r => i ≤ r.1 ∧ (r.2 = true → r.1 ≤ p → sk (s.extract 0 p) i = r))
    (fun i _ h1 h2 => ⟨Nat.le_refl _, fun _ hle => sk_stop (by rcases cut_or hp i with h | h <;> rw [h] <;> first | exact h1 | rfl) (opens_cut_no hp h2)⟩)
    (fun i _ _ _ => ⟨Nat.le_refl _, fun h => by cases h⟩)
    (fun i r hb ⟨hr, hg⟩ => ⟨by omega, fun h1 h2 => by rw [sk_blank (by rw [cut_in hp (by omega)]; exact hb)]; exact hg h1 h2⟩)
    (fun i r ho hz ⟨hr, hg⟩ => by
      have hpos := cm_pos _ _ _ (Nat.le_refl _) hz
      refine ⟨by omega, fun h1 h2 => ?_⟩
      have e := cm_cut hp _ (i + 2) 1 (Nat.le_refl _) hz (by omega)
      rw [sk_over (by rw [opens_cut hp (by omega)]; exact ho) (by rw [e]; exact hz), e]
      exact hg h1 h2) _ i hi (Nat.le_refl _)
  rw [h] at this
  exact this.2 rfl ha
theorem reach_cut {s : ByteArray} {p : Nat} (hp : p ≤ s.size) {i : Nat} {acc : List Tk} (h : Reach s i acc) : i ≤ p → Reach (s.extract 0 p) i acc := by
  induction h with
  | start => exact fun _ => .start
  | @step i acc t e hr h1 ih =>
    intro he
    have hi := (reach_le hr).1
    have h2 := one_range hi h1
    obtain ⟨a, h3, h4, h5, h6, h7, rfl⟩ := one_tok h1
    have h8 := tokErr_pos h7
    rw [ext_size h2.2] at h8
    have hz : (s.extract 0 p).size = p := by rw [ext_size hp]; rfl
    have hend : tokEnd (s.extract 0 p) a = a + (e - a) := by
      refine tokEnd_like h6 (by omega) (fun k hk => cut_in hp (by omega)) (fun q hq hw => ?_) (fun t ht hl hpre => ?_)
      · rw [show a + (e - a) = e by omega]
        rcases cut_or hp e with h | h <;> rw [h]
        · exact hw
        · rcases hq with rfl | rfl <;> rfl
      · refine pre_iff.2 fun k hk => ?_
        have h9 := pre_iff.1 hpre k hk
        rcases cut_or hp (a + k) with h | h
        · rw [← h]; exact h9
        · have := UInt8.toNat_lt t[k]; omega
    rw [show a + (e - a) = e by omega] at hend
    have htx : (s.extract 0 p).extract a e = s.extract a e := ext_eq_of (by omega) h2.2 rfl fun k hk => cut_in hp (by omega)
    have hone := one_of (s := s.extract 0 p) (c := acc.length) (g := neg acc) (sk_cut hp hi h3 (by omega)) (by omega) h5 hend.symm (by rw [htx]; exact h7)
    rw [htx] at hone
    exact .step (ih (by omega)) hone
/-- Without its last token, and all behind it, a text has the others. -/
theorem cut_scan {s : ByteArray} (hs : s.size ≤ 65536) {l : List Tk} (h : scanM s = (0, 0, l)) (h0 : 0 < l.length) : ∃ p : Nat, l[l.length - 1].at_ = p ∧ p ≤ s.size ∧ scanM (s.extract 0 p) = (0, 0, l.take (l.length - 1)) := by
  have hr := scan_ok hs h
  obtain ⟨p, h1, h2, h3, h4, _, _⟩ := tok_at hr (k := l.length - 1) (by omega)
  obtain ⟨k1, k2⟩ := reach_take hr (l.length - 1) (by omega)
  have k2 := k2 (by omega)
  have hi := (reach_le k1).1
  have hp : p ≤ s.size := by omega
  have hz : (s.extract 0 p).size = p := by rw [ext_size hp]; rfl
  refine ⟨p, h1, hp, scan_fin (by omega) (reach_cut hp k1 h2) ?_⟩
  obtain ⟨a, h5, _, _, _, _, h6⟩ := one_tok k2
  have h7 : a = p := by
    have : (tokOf (s.extract a (en (l.take (l.length - 1 + 1)))) a).at_ = (p : Int) := by rw [← h6]; exact h1
    simp only [tokOf] at this
    omega
  subst h7
  unfold one
  rw [sk_cut hp hi h5 (Nat.le_refl _)]
  simp only
  rw [if_neg (by simp), if_pos hz.symm]
end Go.Proofs.YtkogfdbmgdajdaaDoor
