/-
  PLAIN MATHEMATICS OF FORMED TYPES: a variable has nothing else; putting and numbering are what the reference says. Nothing of the program is named here.
-/
import Derived.Test.YtgdclchpccbifaaTyM
namespace Go.Proofs.Ytgdclchpccbifaa
theorem good_var {t : Tt} (h : goodB t = true) (hk : t.kind = 1) : 0 ≤ t.num ∧ t.name = ⟨#[]⟩ ∧ t.args = [] := by
  unfold goodB at h
  rw [if_pos hk] at h
  simp only [Bool.and_eq_true, decide_eq_true_eq] at h
  exact ⟨h.1.1, h.1.2, List.eq_nil_of_length_eq_zero h.2⟩
theorem good_con {t : Tt} (h : goodB t = true) (hk : t.kind ≠ 1) : t.kind = 2 ∧ t.num = 0 := by
  unfold goodB at h
  rw [if_neg hk] at h
  by_cases hc : t.kind ≠ 2 ∨ t.num ≠ 0
  · rw [if_pos hc] at h; cases h
  · constructor
    · exact Decidable.of_not_not fun e => hc (.inl e)
    · exact Decidable.of_not_not fun e => hc (.inr e)
theorem formed_node {k n : Int} {s : ByteArray} {l : List Tt} (h : formedT (.mk k n s l) = true) : goodB (.mk k n s l) = true ∧ ∀ t ∈ l, formedT t = true := by
  unfold formedT at h
  simp only [pre, List.all_cons, Bool.and_eq_true] at h
  refine ⟨h.1, fun t ht => ?_⟩
  unfold formedT
  rw [List.all_eq_true]
  intro u hu
  exact List.all_eq_true.1 h.2 u (mem_preL ht hu)
/-- A formed type is a variable, or a constructor. -/
theorem formed_var {n k : Int} {s : ByteArray} {l : List Tt} (h : formedT (.mk k n s l) = true) (hk : k = 1) : 0 ≤ n ∧ s = ⟨#[]⟩ ∧ l = [] := good_var (formed_node h).1 hk
def putG (ls : List Tt) (t : Tt) : Tt := if h : 0 ≤ t.num ∧ t.num < ls.length then ls[t.num.toNat]'(by omega) else t
def putT (ls : List Tt) (t : Tt) : Tt := cp (putG ls) t
def place0 (vs : List Int) (x : Int) : Int := if x ∈ vs then vs.idxOf x else 0
def numG (vs : List Int) (t : Tt) : Tt := .mk t.kind (place0 vs t.num) t.name t.args
def canonT (t : Tt) : Tt := cp (numG (varsT t)) t
mutual
theorem put_eq (ls : List Tt) : ∀ t : Tt, formedT t = true → putT ls t = rputT ls t
  | .mk k n s l, h => by
    by_cases hk : k = 1
    · obtain ⟨_, _, rfl⟩ := formed_var h hk
      unfold putT
      rw [cp_var hk, rputT, if_pos hk]; rfl
    · have := put_eqL ls l fun t ht => (formed_node h).2 t ht
      unfold putT
      rw [cp_con hk, rput_con hk, this]
theorem put_eqL (ls : List Tt) : ∀ l : List Tt, (∀ t ∈ l, formedT t = true) → l.map (cp (putG ls)) = l.map (rputT ls)
  | [], _ => rfl
  | t :: r, h => by
    have h1 := put_eq ls t (h t (List.mem_cons_self ..))
    have h2 := put_eqL ls r fun u hu => h u (List.mem_cons_of_mem _ hu)
    simp only [List.map_cons, h2]
    unfold putT at h1
    rw [h1]
end
/-! ### Variables -/
theorem vstep_sub (vs : List Int) (t : Tt) : ∀ x ∈ vs, x ∈ (vstep vs t).1 := by
  intro x hx; unfold vstep; simp only; split
  · exact List.mem_append_left _ hx
  · exact hx
theorem vscan_sub : ∀ (P : List Tt) (vs : List Int), ∀ x ∈ vs, x ∈ (scan vstep vs P).1
  | [], _, _, h => h
  | a :: r, vs, x, h => by rw [scan_yes vstep rfl]; exact vscan_sub r _ x (vstep_sub vs a x h)
theorem vscan_mem : ∀ (P : List Tt) (vs : List Int) (u : Tt), u ∈ P → u.kind = 1 → u.num ∈ (scan vstep vs P).1
  | [], _, _, h, _ => by cases h
  | a :: r, vs, u, h, hk => by
    rw [scan_yes vstep rfl]
    rcases List.mem_cons.1 h with rfl | h
    · refine vscan_sub r _ _ ?_
      unfold vstep; simp only
      by_cases hm : u.num ∈ vs
      · rw [if_neg (fun h => h.2 hm)]; exact hm
      · rw [if_pos ⟨hk, hm⟩]; simp
    · exact vscan_mem r _ u h hk
theorem vars_mem {t u : Tt} (h : u ∈ pre t) (hk : u.kind = 1) : u.num ∈ varsT t := vscan_mem _ _ u h hk
theorem place_eq {vs : List Int} {n : Int} (h : n ∈ vs) : placeR vs n = place0 vs n := by unfold placeR place0; rw [if_pos h, if_pos h]
mutual
theorem ren_eq (vs : List Int) : ∀ t : Tt, formedT t = true → (∀ u ∈ pre t, u.kind = 1 → u.num ∈ vs) → cp (numG vs) t = renT vs t
  | .mk k n s l, h, hv => by
    by_cases hk : k = 1
    · obtain ⟨_, rfl, rfl⟩ := formed_var h hk
      rw [cp_var hk, renT, if_pos hk]
      have hm : n ∈ vs := hv (.mk k n ⟨#[]⟩ []) (by simp [pre]) hk
      show Tt.mk k (place0 vs n) ⟨#[]⟩ [] = _
      rw [← place_eq hm, hk]
    · have := ren_eqL vs l (fun t ht => (formed_node h).2 t ht) fun t ht u hu => hv u (by simp only [pre]; exact List.mem_cons_of_mem _ (mem_preL ht hu))
      rw [cp_con hk, ren_con hk, this]
theorem ren_eqL (vs : List Int) : ∀ l : List Tt, (∀ t ∈ l, formedT t = true) → (∀ t ∈ l, ∀ u ∈ pre t, u.kind = 1 → u.num ∈ vs) → l.map (cp (numG vs)) = l.map (renT vs)
  | [], _, _ => rfl
  | t :: r, h, hv => by
    have h1 := ren_eq vs t (h t (List.mem_cons_self ..)) (hv t (List.mem_cons_self ..))
    have h2 := ren_eqL vs r (fun u hu => h u (List.mem_cons_of_mem _ hu)) fun u hu => hv u (List.mem_cons_of_mem _ hu)
    simp only [List.map_cons, h1, h2]
end
theorem canon_eq {t : Tt} (h : formedT t = true) : canonT t = renT (varsT t) t := ren_eq _ t h fun _ hu hk => vars_mem hu hk
/-! ### Put twice -/
theorem putG_nil : putG [] = id := by funext t; unfold putG; rw [dif_neg (by simp)]; rfl
theorem put_nil (t : Tt) : putT [] t = t := by unfold putT; rw [putG_nil, cp_id]
/-- Each of the first variables itself. -/
def ownL (m : Nat) : List Tt := (List.range m).map fun (i : Nat) => Tt.mk 1 (i : Int) ⟨#[]⟩ []
theorem ownL_snoc (m : Nat) : ownL (m + 1) = ownL m ++ [.mk 1 m ⟨#[]⟩ []] := by unfold ownL; rw [List.range_succ, List.map_append]; rfl
theorem ownL_len (m : Nat) : (ownL m).length = m := by simp [ownL]
mutual
theorem put_own (m : Nat) : ∀ t : Tt, formedT t = true → putT (ownL m) t = t
  | .mk k n s l, h => by
    by_cases hk : k = 1
    · obtain ⟨h0, rfl, rfl⟩ := formed_var h hk
      subst hk
      unfold putT
      rw [cp_var rfl]
      unfold putG
      split
      · rename_i hc
        simp only [Tt.num, ownL, List.getElem_map, List.getElem_range]
        rw [show ((n.toNat : Nat) : Int) = n by simp only [Tt.num] at hc; omega]
      · rfl
    · have := put_ownL m l fun t ht => (formed_node h).2 t ht
      unfold putT
      rw [cp_con hk, this]
theorem put_ownL (m : Nat) : ∀ l : List Tt, (∀ t ∈ l, formedT t = true) → l.map (cp (putG (ownL m))) = l
  | [], _ => rfl
  | t :: r, h => by
    have h1 := put_own m t (h t (List.mem_cons_self ..))
    have h2 := put_ownL m r fun u hu => h u (List.mem_cons_of_mem _ hu)
    unfold putT at h1
    simp only [List.map_cons, h2, h1]
end
mutual
theorem put_both (ls ks : List Tt) : ∀ t : Tt, formedT t = true → (∀ u ∈ pre t, u.kind = 1 → u.num < ls.length) → putT ks (putT ls t) = putT (ls.map (putT ks)) t
  | .mk k n s l, h, hv => by
    by_cases hk : k = 1
    · obtain ⟨h0, rfl, rfl⟩ := formed_var h hk
      subst hk
      have hn : n < ls.length := hv (.mk 1 n ⟨#[]⟩ []) (by simp [pre]) rfl
      have e1 : putT ls (.mk 1 n ⟨#[]⟩ []) = ls[n.toNat]'(by omega) := by
        unfold putT; rw [cp_var rfl]; unfold putG; rw [dif_pos (by simp only [Tt.num]; omega)]; rfl
      have e2 : putT (ls.map (putT ks)) (.mk 1 n ⟨#[]⟩ []) = (ls.map (putT ks))[n.toNat]'(by simp; omega) := by
        unfold putT; rw [cp_var rfl]; unfold putG; rw [dif_pos (by simp only [Tt.num, List.length_map]; omega)]; rfl
      rw [e1, e2, List.getElem_map]
    · have := put_bothL ls ks l (fun t ht => (formed_node h).2 t ht) fun t ht u hu => hv u (by simp only [pre]; exact List.mem_cons_of_mem _ (mem_preL ht hu))
      have e1 : putT ls (.mk k n s l) = .mk k n s (l.map (putT ls)) := cp_con hk
      have e2 : putT ks (.mk k n s (l.map (putT ls))) = .mk k n s ((l.map (putT ls)).map (putT ks)) := cp_con hk
      have e3 : putT (ls.map (putT ks)) (.mk k n s l) = .mk k n s (l.map (putT (ls.map (putT ks)))) := cp_con hk
      rw [e1, e2, e3, this]
theorem put_bothL (ls ks : List Tt) : ∀ l : List Tt, (∀ t ∈ l, formedT t = true) → (∀ t ∈ l, ∀ u ∈ pre t, u.kind = 1 → u.num < ls.length) → (l.map (putT ls)).map (putT ks) = l.map (putT (ls.map (putT ks)))
  | [], _, _ => rfl
  | t :: r, h, hv => by
    have h1 := put_both ls ks t (h t (List.mem_cons_self ..)) (hv t (List.mem_cons_self ..))
    have h2 := put_bothL ls ks r (fun u hu => h u (List.mem_cons_of_mem _ hu)) fun u hu => hv u (List.mem_cons_of_mem _ hu)
    simp only [List.map_cons, h1, h2]
end
theorem put_both_vars {ls ks : List Tt} {t : Tt} (h : formedT t = true) (hv : ∀ x ∈ varsT t, x < ls.length) : putT ks (putT ls t) = putT (ls.map (putT ks)) t := put_both ls ks t h fun _ hu hk => hv _ (vars_mem hu hk)
end Go.Proofs.Ytgdclchpccbifaa
