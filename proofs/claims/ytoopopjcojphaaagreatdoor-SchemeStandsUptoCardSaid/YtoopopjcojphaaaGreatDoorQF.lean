import Derived.Test.YtoopopjcojphaaaGreatDoorQC
import Derived.WalkKit
/-
  PLAIN MATHEMATICS OF SCHEMES: types put in the place of variables, a type as another one, and what is made of both. Nothing of the program is named here.
-/
namespace Go.Proofs.YtoopopjcojphaaaGreatDoor
def vT (n : Int) : Tt := .mk 1 n ⟨#[]⟩ []
def zT : Tt := .mk 0 0 ⟨#[]⟩ []
mutual
def rebT (f : Int → Option Tt) : Tt → Tt
  | .mk k n s l => if k = 1 then (match f n with | some u => u | none => .mk k n s (rebL f l)) else .mk k n s (rebL f l)
def rebL (f : Int → Option Tt) : List Tt → List Tt
  | [] => []
  | t :: r => rebT f t :: rebL f r
end
theorem rebL_map (f : Int → Option Tt) (l : List Tt) : rebL f l = l.map (rebT f) := by
  induction l with
  | nil => rfl
  | cons t r ih => simp [rebL, ih]
theorem reb_var {f : Int → Option Tt} {n : Int} {s : ByteArray} {l : List Tt} {u : Tt} (h : f n = some u) : rebT f (.mk 1 n s l) = u := by rw [rebT, if_pos rfl, h]
theorem reb_none {f : Int → Option Tt} {k n : Int} {s : ByteArray} {l : List Tt} (h : f n = none) : rebT f (.mk k n s l) = .mk k n s (l.map (rebT f)) := by
  rw [rebT, h, rebL_map]; simp
theorem reb_con {f : Int → Option Tt} {k n : Int} {s : ByteArray} {l : List Tt} (h : k ≠ 1) : rebT f (.mk k n s l) = .mk k n s (l.map (rebT f)) := by rw [rebT, if_neg h, rebL_map]
mutual
theorem reb_comp (f g : Int → Option Tt) : ∀ t : Tt, rebT f (rebT g t) = rebT (fun n => match g n with | some u => some (rebT f u) | none => f n) t
  | .mk k n s l => by
    have ih := reb_compL f g l
    by_cases hk : k = 1
    · subst hk
      cases hg : g n with
      | some u => rw [reb_var hg, reb_var (u := rebT f u) (by rw [hg])]
      | none =>
        rw [reb_none hg]
        cases hf : f n with
        | some u => rw [reb_var hf, reb_var (u := u) (by rw [hg, hf])]
        | none => rw [reb_none hf, reb_none (by rw [hg, hf]), ← ih]
    · rw [reb_con hk, reb_con hk, reb_con hk, ← ih]
theorem reb_compL (f g : Int → Option Tt) : ∀ l : List Tt, (l.map (rebT g)).map (rebT f) = l.map (rebT (fun n => match g n with | some u => some (rebT f u) | none => f n))
  | [] => rfl
  | t :: r => by simp only [List.map_cons]; rw [reb_comp f g t, reb_compL f g r]
end
mutual
theorem reb_congr {f g : Int → Option Tt} : ∀ t : Tt, (∀ u ∈ pre t, u.kind = 1 → f u.num = g u.num) → rebT f t = rebT g t
  | .mk k n s l, h => by
    have ih := reb_congrL l fun u hu hk => h u (by rw [pre]; exact List.mem_cons_of_mem _ hu) hk
    by_cases hk : k = 1
    · have h0 : f n = g n := h (.mk k n s l) (by rw [pre]; exact List.mem_cons_self ..) hk
      rw [rebT, rebT, h0, rebL_map, rebL_map, ih]
    · rw [reb_con hk, reb_con hk, ih]
theorem reb_congrL {f g : Int → Option Tt} : ∀ l : List Tt, (∀ u ∈ preL l, u.kind = 1 → f u.num = g u.num) → l.map (rebT f) = l.map (rebT g)
  | [], _ => rfl
  | t :: r, h => by
    simp only [List.map_cons]
    rw [reb_congr t fun u hu => h u (by rw [preL]; exact List.mem_append_left _ hu), reb_congrL r fun u hu => h u (by rw [preL]; exact List.mem_append_right _ hu)]
end
theorem formed_mem {t u : Tt} (h : formedT t = true) (hu : u ∈ pre t) : goodB u = true := List.all_eq_true.1 h u hu
theorem formed_mk {k n : Int} {s : ByteArray} {l : List Tt} (h : goodB (.mk k n s l) = true) (hl : ∀ t ∈ l, formedT t = true) : formedT (.mk k n s l) = true := by
  unfold formedT
  simp only [pre, List.all_cons, Bool.and_eq_true]
  refine ⟨h, ?_⟩
  rw [List.all_eq_true]
  have key : ∀ l : List Tt, (∀ t ∈ l, formedT t = true) → ∀ u ∈ preL l, goodB u = true := by
    intro l
    induction l with
    | nil => intro _ u hu; simp [preL] at hu
    | cons t r ih =>
      intro h u hu
      rw [preL] at hu
      rcases List.mem_append.1 hu with hu | hu
      · exact formed_mem (h t (List.mem_cons_self ..)) hu
      · exact ih (fun t ht => h t (List.mem_cons_of_mem _ ht)) u hu
  exact key l hl
def goodN (k n : Int) (s : ByteArray) (c : Nat) : Bool :=
  if k = 1 then decide (0 ≤ n) && decide (s = ⟨#[]⟩) && decide (c = 0)
  else if k ≠ 2 ∨ n ≠ 0 then false
  else if s ≠ ⟨#[114, 101, 102]⟩ ∧ s ≠ ⟨#[45, 62]⟩ ∧ s ≠ ⟨#[42]⟩ ∧ lowB s = false then false
  else decide ((argsB s).1 ≤ c) && decide ((c : Int) ≤ (argsB s).2)
theorem good_n (k n : Int) (s : ByteArray) (l : List Tt) : goodB (.mk k n s l) = goodN k n s l.length := rfl
theorem good_len {k n : Int} {s : ByteArray} {l m : List Tt} (h : l.length = m.length) : goodB (.mk k n s l) = goodB (.mk k n s m) := by rw [good_n, good_n, h]
theorem formed_v {n : Int} (h : 0 ≤ n) : formedT (vT n) = true := by
  refine formed_mk ?_ (fun t ht => by cases ht)
  unfold goodB
  simp [Tt.kind, Tt.num, Tt.name, Tt.args, h]
mutual
theorem reb_formed {f : Int → Option Tt} : ∀ t : Tt, formedT t = true → (∀ u ∈ pre t, u.kind = 1 → ∀ x, f u.num = some x → formedT x = true) → formedT (rebT f t) = true
  | .mk k n s l, h, hf => by
    have ih := reb_formedL l (formed_node h).2 fun u hu => hf u (by rw [pre]; exact List.mem_cons_of_mem _ hu)
    by_cases hk : k = 1
    · cases hx : f n with
      | some u =>
        subst hk
        rw [reb_var hx]
        exact hf (.mk 1 n s l) (by rw [pre]; exact List.mem_cons_self ..) rfl u hx
      | none =>
        rw [reb_none hx]
        exact formed_mk (by rw [good_len (m := l) (by simp)]; exact (formed_node h).1) ih
    · rw [reb_con hk]
      exact formed_mk (by rw [good_len (m := l) (by simp)]; exact (formed_node h).1) ih
theorem reb_formedL {f : Int → Option Tt} : ∀ l : List Tt, (∀ t ∈ l, formedT t = true) → (∀ u ∈ preL l, u.kind = 1 → ∀ x, f u.num = some x → formedT x = true) → ∀ t ∈ l.map (rebT f), formedT t = true
  | [], _, _ => by simp
  | t :: r, h, hf => by
    intro u hu
    simp only [List.map_cons] at hu
    rcases List.mem_cons.1 hu with rfl | hu
    · exact reb_formed t (h t (List.mem_cons_self ..)) fun u hu => hf u (by rw [preL]; exact List.mem_append_left _ hu)
    · exact reb_formedL r (fun t ht => h t (List.mem_cons_of_mem _ ht)) (fun u hu => hf u (by rw [preL]; exact List.mem_append_right _ hu)) u hu
end
mutual
/-- Nothing grows if leaves come in the place of leaves. -/
theorem reb_len {f : Int → Option Tt} : ∀ t : Tt, formedT t = true → (∀ u ∈ pre t, u.kind = 1 → ∀ x, f u.num = some x → (pre x).length = 1) → (pre (rebT f t)).length = (pre t).length
  | .mk k n s l, h, hf => by
    have ih := reb_lenL l (formed_node h).2 fun u hu => hf u (by rw [pre]; exact List.mem_cons_of_mem _ hu)
    by_cases hk : k = 1
    · obtain ⟨_, _, hl⟩ := formed_var h hk
      subst hk
      cases hx : f n with
      | some u =>
        rw [reb_var hx, hf (.mk 1 n s l) (by rw [pre]; exact List.mem_cons_self ..) rfl u hx]
        rw [hl]; simp [pre, preL]
      | none => rw [reb_none hx]; simp only [pre, List.length_cons, ih]
    · rw [reb_con hk]; simp only [pre, List.length_cons, ih]
theorem reb_lenL {f : Int → Option Tt} : ∀ l : List Tt, (∀ t ∈ l, formedT t = true) → (∀ u ∈ preL l, u.kind = 1 → ∀ x, f u.num = some x → (pre x).length = 1) → (preL (l.map (rebT f))).length = (preL l).length
  | [], _, _ => rfl
  | t :: r, h, hf => by
    simp only [List.map_cons, preL, List.length_append]
    rw [reb_len t (h t (List.mem_cons_self ..)) fun u hu => hf u (by rw [preL]; exact List.mem_append_left _ hu), reb_lenL r (fun t ht => h t (List.mem_cons_of_mem _ ht)) fun u hu => hf u (by rw [preL]; exact List.mem_append_right _ hu)]
end
mutual
theorem reb_id : ∀ t : Tt, formedT t = true → rebT (fun n => some (vT n)) t = t
  | .mk k n s l, h => by
    by_cases hk : k = 1
    · obtain ⟨_, hs, hl⟩ := formed_var h hk
      subst hk; subst hs; subst hl
      rw [reb_var rfl]; rfl
    · rw [reb_con hk, reb_idL l (formed_node h).2]
theorem reb_idL : ∀ l : List Tt, (∀ t ∈ l, formedT t = true) → l.map (rebT (fun n => some (vT n))) = l
  | [], _ => rfl
  | t :: r, h => by simp only [List.map_cons]; rw [reb_id t (h t (List.mem_cons_self ..)), reb_idL r fun t ht => h t (List.mem_cons_of_mem _ ht)]
end
def rightT' (t : Tt) : Bool := decide ((pre t).length ≤ 256) && formedT t
theorem right_iff {t : Tt} : rightT' t = true ↔ (pre t).length ≤ 256 ∧ formedT t = true := by unfold rightT'; simp
/-! ### Schemes -/
def rightS (v : Int) (t : Tt) : Bool := decide (0 ≤ v) && decide (v ≤ 256) && rightT' t
theorem rightS_iff {v : Int} {t : Tt} : rightS v t = true ↔ 0 ≤ v ∧ v ≤ 256 ∧ (pre t).length ≤ 256 ∧ formedT t = true := by unfold rightS; simp [right_iff, and_assoc]
def placeF (old : List Int) (n : Int) : Option Tt := if n ∈ old then some (vT (old.idxOf n)) else none
def outK (keep : List Int) (x : Int) : Bool := decide (x ∉ keep)
def inK (keep : List Int) (x : Int) : Bool := decide (x ∈ keep)
def oldS (t : Tt) (keep : List Int) : List Int := (varsT t).filter (outK keep) ++ (varsT t).filter (inK keep)
def ofV (t : Tt) (keep : List Int) : Int := if rightT' t = true then (((varsT t).filter (outK keep)).length : Nat) else 0
def ofT (t : Tt) (keep : List Int) : Tt := if rightT' t = true then rebT (placeF (oldS t keep)) t else zT
def putF (ls : List Tt) (n : Int) : Option Tt := if h : 0 ≤ n ∧ n < ls.length then some (ls[n.toNat]'(by omega)) else none
theorem putF_in {ls : List Tt} {n : Int} (h : 0 ≤ n ∧ n < ls.length) : putF ls n = some (ls[n.toNat]'(by omega)) := dif_pos h
theorem putF_out {ls : List Tt} {n : Int} (h : ¬ (0 ≤ n ∧ n < ls.length)) : putF ls n = none := dif_neg h
/-- A type as another one: its own variables by f, the others moved. -/
def subF (va vb : Int) (f : Int → Tt) (n : Int) : Option Tt := if n < va then some (f n) else some (vT (n - va + vb))
def subT (va vb : Int) (f : Int → Tt) (t : Tt) : Tt := rebT (subF va vb f) t
theorem sub_own {va vb n : Int} {f : Int → Tt} {s : ByteArray} {l : List Tt} (h : n < va) : subT va vb f (.mk 1 n s l) = f n := reb_var (by unfold subF; rw [if_pos h])
theorem sub_free {va vb n : Int} {f : Int → Tt} {s : ByteArray} {l : List Tt} (h : ¬ n < va) : subT va vb f (.mk 1 n s l) = vT (n - va + vb) := reb_var (by unfold subF; rw [if_neg h])
theorem sub_con {va vb k n : Int} {f : Int → Tt} {s : ByteArray} {l : List Tt} (h : k ≠ 1) : subT va vb f (.mk k n s l) = .mk k n s (l.map (subT va vb f)) := reb_con h
abbrev Sg := Int → Option Tt
def Sg.put (σ : Sg) (n : Int) (y : Tt) : Sg := fun i => if i = n then some y else σ i
def Ext (f : Int → Tt) (σ : Sg) : Prop := ∀ n u, σ n = some u → f n = u
theorem ext_put {f : Int → Tt} {σ : Sg} {n : Int} {y : Tt} (h : σ n = none ∨ σ n = some y) : Ext f (σ.put n y) ↔ Ext f σ ∧ f n = y := by
  constructor
  · intro he
    refine ⟨fun i u hu => ?_, he n y (by simp [Sg.put])⟩
    by_cases hi : i = n
    · subst hi
      rcases h with h | h
      · rw [h] at hu; cases hu
      · rw [h] at hu; cases hu; exact he i y (by simp [Sg.put])
    · exact he i u (by simp [Sg.put, hi, hu])
  · rintro ⟨he, hn⟩ i u hu
    by_cases hi : i = n
    · subst hi; simp [Sg.put] at hu; rw [← hu]; exact hn
    · simp [Sg.put, hi] at hu; exact he i u hu
/-- How x and y meet, but for their parts: none if they don't. -/
def loc (va vb : Int) (σ : Sg) (x y : Tt) : Option Sg :=
  if x.kind = 1 ∧ x.num < va then (match σ x.num with | none => some (σ.put x.num y) | some u => if sameT u y = true then some (σ.put x.num y) else none)
  else if x.kind = 1 then (if y.kind = 1 ∧ vb ≤ y.num ∧ y.num - vb = x.num - va then some σ else none)
  else if y.kind = x.kind ∧ y.name = x.name ∧ y.args.length = x.args.length then some σ else none
mutual
def mt (va vb : Int) : Sg → Tt → Tt → Option Sg
  | σ, .mk k n s l, y => match loc va vb σ (.mk k n s l) y with
    | none => none
    | some σ' => if k = 1 then some σ' else mtL va vb σ' l y.args
def mtL (va vb : Int) : Sg → List Tt → List Tt → Option Sg
  | σ, [], _ => some σ
  | _, _ :: _, [] => none
  | σ, x :: r, y :: q => match mt va vb σ x y with
    | none => none
    | some σ' => mtL va vb σ' r q
end
theorem loc_spec {va vb : Int} {σ : Sg} {x y : Tt} (hx : formedT x = true) (hy : formedT y = true) :
    (∀ σ', loc va vb σ x y = some σ' → ∀ f, (Ext f σ ∧ subT va vb f x = y) ↔ (Ext f σ' ∧ (x.kind ≠ 1 → x.args.map (subT va vb f) = y.args))) ∧
    (loc va vb σ x y = none → ∀ f, Ext f σ → subT va vb f x ≠ y) := by
  obtain ⟨k, n, s, l⟩ := x
  obtain ⟨k', n', s', l'⟩ := y
  simp only [Tt.kind, Tt.args]
  have gy := (formed_node hy).1
  have gx := (formed_node hx).1
  by_cases hk : k = 1
  · subst hk
    simp only [ne_eq, not_true_eq_false, false_implies, and_true]
    by_cases hn : n < va
    · have e : loc va vb σ (.mk 1 n s l) (.mk k' n' s' l') = (match σ n with | none => some (σ.put n (.mk k' n' s' l')) | some u => if sameT u (.mk k' n' s' l') = true then some (σ.put n (.mk k' n' s' l')) else none) := by
        exact if_pos (show (1 : Int) = 1 ∧ n < va from ⟨rfl, hn⟩)
      rw [e]
      cases hs : σ n with
      | none =>
        refine ⟨fun σ' h f => ?_, fun h => by simp at h⟩
        simp only [Option.some.injEq] at h
        subst h
        rw [sub_own hn, ext_put (.inl hs)]
      | some u =>
        by_cases hu : sameT u (.mk k' n' s' l') = true
        · have hu' := (sameT_iff _ _).1 hu
          subst hu'
          simp only [hu, if_true]
          refine ⟨fun σ' h f => ?_, fun h => by simp at h⟩
          simp only [Option.some.injEq] at h
          subst h
          rw [sub_own hn, ext_put (.inr hs)]
        · simp only [hu, if_false, Bool.false_eq_true]
          refine ⟨fun σ' h => by simp at h, fun _ f hf heq => hu ?_⟩
          rw [sub_own hn, hf n u hs] at heq
          rw [sameT_iff]; exact heq
    · have e : loc va vb σ (.mk 1 n s l) (.mk k' n' s' l') = if k' = 1 ∧ vb ≤ n' ∧ n' - vb = n - va then some σ else none :=
        (if_neg (show ¬ ((1 : Int) = 1 ∧ n < va) by simp [hn])).trans (if_pos (show (1 : Int) = 1 from rfl))
      rw [e]
      by_cases hc : k' = 1 ∧ vb ≤ n' ∧ n' - vb = n - va
      · rw [if_pos hc]
        refine ⟨fun σ' h f => ?_, fun h => by simp at h⟩
        simp only [Option.some.injEq] at h
        subst h
        obtain ⟨_, h2, h3⟩ := formed_var hy hc.1
        rw [sub_free hn]
        have : vT (n - va + vb) = .mk k' n' s' l' := by rw [h2, h3, hc.1]; unfold vT; congr 1; omega
        simp [this]
      · rw [if_neg hc]
        refine ⟨fun σ' h => by simp at h, fun _ f hf heq => hc ?_⟩
        rw [sub_free hn] at heq
        unfold vT at heq
        injection heq with h1 h2
        exact ⟨h1.symm, by omega, by omega⟩
  · have e : loc va vb σ (.mk k n s l) (.mk k' n' s' l') = if k' = k ∧ s' = s ∧ l'.length = l.length then some σ else none :=
      (if_neg (show ¬ (k = 1 ∧ n < va) by simp [hk])).trans (if_neg (show ¬ k = 1 from hk))
    rw [e]
    by_cases hc : k' = k ∧ s' = s ∧ l'.length = l.length
    · rw [if_pos hc]
      refine ⟨fun σ' h f => ?_, fun h => by simp at h⟩
      simp only [Option.some.injEq] at h
      subst h
      obtain ⟨rfl, rfl, hl⟩ := hc
      have n1 := (good_con gx hk).2
      have n2 := (good_con gy hk).2
      simp only [Tt.num] at n1 n2
      subst n1; subst n2
      rw [sub_con hk]
      simp [hk]
    · rw [if_neg hc]
      refine ⟨fun σ' h => by simp at h, fun _ f hf heq => hc ?_⟩
      rw [sub_con hk] at heq
      injection heq with h1 h2 h3 h4
      exact ⟨h1.symm, h3.symm, by rw [← h4]; simp⟩
mutual
theorem mt_spec {va vb : Int} : ∀ (x : Tt) (σ : Sg) (y : Tt), formedT x = true → formedT y = true →
    (∀ σ', mt va vb σ x y = some σ' → ∀ f, (Ext f σ ∧ subT va vb f x = y) ↔ Ext f σ') ∧ (mt va vb σ x y = none → ∀ f, Ext f σ → subT va vb f x ≠ y)
  | .mk k n s l, σ, y, hx, hy => by
    have hl := loc_spec (va := va) (vb := vb) (σ := σ) hx hy
    rw [mt]
    cases ho : loc va vb σ (.mk k n s l) y with
    | none => exact ⟨fun σ' h => by simp at h, fun _ => hl.2 ho⟩
    | some σ1 =>
      have h1 : ∀ f, (Ext f σ ∧ subT va vb f (.mk k n s l) = y) ↔ (Ext f σ1 ∧ (k ≠ 1 → l.map (subT va vb f) = y.args)) := hl.1 σ1 ho
      simp only
      by_cases hk : k = 1
      · simp only [hk, if_true]
        refine ⟨fun σ' h f => ?_, fun h => by simp at h⟩
        simp only [Option.some.injEq] at h
        subst h
        have := h1 f
        rw [hk] at this
        simpa using this
      · simp only [hk, if_false]
        have hlen : y.args.length = l.length := by
          obtain ⟨k', n', s', l'⟩ := y
          by_cases hc : k' = k ∧ s' = s ∧ l'.length = l.length
          · exact hc.2.2
          · have e : loc va vb σ (.mk k n s l) (.mk k' n' s' l') = none := (if_neg (show ¬ (k = 1 ∧ n < va) by simp [hk])).trans ((if_neg (show ¬ k = 1 from hk)).trans (if_neg hc))
            rw [e] at ho; cases ho
        have hL := mtL_spec (va := va) (vb := vb) l σ1 y.args hlen.symm (formed_node hx).2 (fun u hu => by obtain ⟨k', n', s', l'⟩ := y; exact (formed_node hy).2 u hu)
        refine ⟨fun σ' h f => ?_, fun h f hf heq => ?_⟩
        · rw [h1 f, ← hL.1 σ' h f]
          simp [hk]
        · have := (h1 f).1 ⟨hf, heq⟩
          exact hL.2 h f this.1 (this.2 hk)
theorem mtL_spec {va vb : Int} : ∀ (l : List Tt) (σ : Sg) (m : List Tt), l.length = m.length → (∀ t ∈ l, formedT t = true) → (∀ t ∈ m, formedT t = true) →
    (∀ σ', mtL va vb σ l m = some σ' → ∀ f, (Ext f σ ∧ l.map (subT va vb f) = m) ↔ Ext f σ') ∧ (mtL va vb σ l m = none → ∀ f, Ext f σ → l.map (subT va vb f) ≠ m)
  | [], σ, [], _, _, _ => by
    refine ⟨fun σ' h f => ?_, fun h => by simp [mtL] at h⟩
    simp only [mtL, Option.some.injEq] at h
    subst h; simp
  | [], _, _ :: _, h, _, _ => by simp at h
  | _ :: _, _, [], h, _, _ => by simp at h
  | x :: r, σ, y :: q, h, hx, hy => by
    have h1 := mt_spec (va := va) (vb := vb) x σ y (hx x (List.mem_cons_self ..)) (hy y (List.mem_cons_self ..))
    rw [mtL]
    cases ho : mt va vb σ x y with
    | none => exact ⟨fun σ' h => by simp at h, fun _ f hf heq => h1.2 ho f hf (List.cons.inj heq).1⟩
    | some σ1 =>
      have h2 := h1.1 σ1 ho
      have hL := mtL_spec (va := va) (vb := vb) r σ1 q (by simpa using h) (fun t ht => hx t (List.mem_cons_of_mem _ ht)) (fun t ht => hy t (List.mem_cons_of_mem _ ht))
      refine ⟨fun σ' h f => ?_, fun h f hf heq => ?_⟩
      · rw [← hL.1 σ' h f, ← h2 f]
        simp only [List.map_cons, List.cons.injEq, and_assoc]
      · obtain ⟨e1, e2⟩ := List.cons.inj heq
        exact hL.2 h f ((h2 f).1 ⟨hf, e1⟩) e2
end
def moreB (va : Int) (ta : Tt) (vb : Int) (tb : Tt) : Bool := rightS va ta && rightS vb tb && (mt va vb (fun _ => none) ta tb).isSome
theorem ext_nil (f : Int → Tt) : Ext f (fun _ => none) := fun n u h => by cases h
theorem mt_iff {va vb : Int} {ta tb : Tt} (ha : formedT ta = true) (hb : formedT tb = true) : (mt va vb (fun _ => none) ta tb).isSome = true ↔ ∃ f, subT va vb f ta = tb := by
  have h := mt_spec (va := va) (vb := vb) ta (fun _ => none) tb ha hb
  cases ho : mt va vb (fun _ => none) ta tb with
  | none =>
    simp only [Option.isSome_none, Bool.false_eq_true, false_iff, not_exists]
    exact fun f => h.2 ho f (ext_nil f)
  | some σ' =>
    simp only [Option.isSome_some, true_iff]
    refine ⟨fun n => (σ' n).getD zT, ((h.1 σ' ho _).2 fun n u hu => by simp [hu]).2⟩
theorem more_iff {va vb : Int} {ta tb : Tt} : moreB va ta vb tb = true ↔ rightS va ta = true ∧ rightS vb tb = true ∧ ∃ f, subT va vb f ta = tb := by
  unfold moreB
  rw [Bool.and_eq_true, Bool.and_eq_true, and_assoc]
  constructor
  · rintro ⟨h1, h2, h3⟩
    exact ⟨h1, h2, (mt_iff (rightS_iff.1 h1).2.2.2 (rightS_iff.1 h2).2.2.2).1 h3⟩
  · rintro ⟨h1, h2, h3⟩
    exact ⟨h1, h2, (mt_iff (rightS_iff.1 h1).2.2.2 (rightS_iff.1 h2).2.2.2).2 h3⟩
def sameS (va : Int) (ta : Tt) (vb : Int) (tb : Tt) : Bool := moreB va ta vb tb && moreB vb tb va ta
theorem more_refl {v : Int} {t : Tt} : moreB v t v t = rightS v t := by
  cases h : rightS v t with
  | false => unfold moreB; simp [h]
  | true =>
    rw [more_iff]
    refine ⟨h, h, vT, ?_⟩
    have e : subF v v vT = fun n => some (vT n) := by funext n; unfold subF; split <;> simp [vT]
    unfold subT
    rw [e, reb_id t (rightS_iff.1 h).2.2.2]
theorem same_symm {va vb : Int} {ta tb : Tt} : sameS va ta vb tb = sameS vb tb va ta := Bool.and_comm ..
theorem more_trans {va vb vc : Int} {ta tb tc : Tt} (h1 : moreB va ta vb tb = true) (h2 : moreB vb tb vc tc = true) : moreB va ta vc tc = true := by
  rw [more_iff] at *
  obtain ⟨ra, rb, f, hf⟩ := h1
  obtain ⟨_, rc, g, hg⟩ := h2
  refine ⟨ra, rc, fun n => subT vb vc g (f n), ?_⟩
  have hb := rightS_iff.1 rb
  rw [← hg, ← hf]
  show _ = rebT (subF vb vc g) (rebT (subF va vb f) ta)
  rw [reb_comp]
  refine reb_congr ta fun u hu hk => ?_
  unfold subF
  by_cases hn : u.num < va
  · simp only [hn, if_true]; rfl
  · simp only [hn, if_false]
    have h3 : ¬ (u.num - va + vb < vb) := by omega
    have e : rebT (subF vb vc g) (vT (u.num - va + vb)) = vT (u.num - va + vb - vb + vc) := reb_var (if_neg h3)
    exact congrArg some (by rw [show u.num - va + vc = u.num - va + vb - vb + vc by omega]; exact e.symm)
end Go.Proofs.YtoopopjcojphaaaGreatDoor
/-
  PLAIN MATHEMATICS OF lex: bytes of a text, runs, comments, symbols, one token, all tokens. Nothing of the program is named here.
-/
namespace Go.Proofs.YtoopopjcojphaaaGreatDoor.Lx
/-- The byte at i; 256 behind the end. -/
def bt (s : ByteArray) (i : Nat) : Nat := if h : i < s.size then s[i].toNat else 256
theorem bt_in {s : ByteArray} {i : Nat} (h : i < s.size) : bt s i = s[i].toNat := by simp [bt, h]
theorem bt_out {s : ByteArray} {i : Nat} (h : ¬ i < s.size) : bt s i = 256 := by simp [bt, h]
theorem bt_lt {s : ByteArray} {i : Nat} (h : i < s.size) : bt s i < 256 := by rw [bt_in h]; exact UInt8.toNat_lt _
theorem lt_of_bt {s : ByteArray} {i : Nat} (h : bt s i < 256) : i < s.size := Decidable.byContradiction fun h' => by rw [bt_out h'] at h; omega

def dg (c : Nat) : Bool := decide (48 ≤ c) && decide (c ≤ 57)
def lt (c : Nat) : Bool := (decide (97 ≤ c) && decide (c ≤ 122)) || (decide (65 ≤ c) && decide (c ≤ 90)) || decide (c = 95)
def wc (c : Nat) : Bool := dg c || lt c || decide (c = 39)
def bl (c : Nat) : Bool := decide (c = 32) || decide (c = 9) || decide (c = 10) || decide (c = 13)
def cls (c : Nat) : Nat := if dg c then 1 else if lt c then 2 else if c = 39 then 3 else 0
theorem dg_iff {c : Nat} : dg c = true ↔ 48 ≤ c ∧ c ≤ 57 := by simp [dg]
theorem lt_iff {c : Nat} : lt c = true ↔ (97 ≤ c ∧ c ≤ 122) ∨ (65 ≤ c ∧ c ≤ 90) ∨ c = 95 := by simp [lt, or_assoc]
theorem wc_iff {c : Nat} : wc c = true ↔ dg c = true ∨ lt c = true ∨ c = 39 := by simp [wc, or_assoc]
theorem bl_iff {c : Nat} : bl c = true ↔ c = 32 ∨ c = 9 ∨ c = 10 ∨ c = 13 := by simp [bl, or_assoc]
theorem dg_false {c : Nat} : dg c = false ↔ ¬ (48 ≤ c ∧ c ≤ 57) := by rw [← dg_iff]; simp
theorem lt_false {c : Nat} : lt c = false ↔ ¬ ((97 ≤ c ∧ c ≤ 122) ∨ (65 ≤ c ∧ c ≤ 90) ∨ c = 95) := by rw [← lt_iff]; simp
theorem bl_false {c : Nat} : bl c = false ↔ ¬ (c = 32 ∨ c = 9 ∨ c = 10 ∨ c = 13) := by rw [← bl_iff]; simp
theorem wc_false {c : Nat} : wc c = false ↔ dg c = false ∧ lt c = false ∧ c ≠ 39 := by simp [wc, and_assoc]
theorem cls_cases (c : Nat) : (cls c = 1 ∧ dg c = true) ∨ (cls c = 2 ∧ dg c = false ∧ lt c = true) ∨ (cls c = 3 ∧ c = 39) ∨ (cls c = 0 ∧ dg c = false ∧ lt c = false ∧ c ≠ 39) := by
  unfold cls
  cases h1 : dg c
  · cases h2 : lt c
    · by_cases h3 : c = 39
      · subst h3; simp
      · simp [h3]
    · simp
  · simp

/-! ### Runs -/
def run (p : Nat → Bool) (s : ByteArray) : Nat → Nat → Nat
  | 0, i => i
  | f + 1, i => if p (bt s i) = true then run p s f (i + 1) else i
/-- Where the run of bytes that meet p, from i on, ends. -/
def rend (p : Nat → Bool) (s : ByteArray) (i : Nat) : Nat := run p s (s.size - i) i
theorem run_spec {p : Nat → Bool} {s : ByteArray} (hp : p 256 = false) : ∀ f i, s.size - i ≤ f → i ≤ run p s f i ∧ (∀ k, i ≤ k → k < run p s f i → p (bt s k) = true) ∧ p (bt s (run p s f i)) = false
  | 0, i, h => by
    refine ⟨Nat.le_refl _, fun k h1 h2 => ?_, ?_⟩
    · simp only [run] at h2; omega
    · simp only [run]; rw [bt_out (s := s) (i := i) (by omega)]; exact hp
  | f + 1, i, h => by
    simp only [run]
    split
    · rename_i hy
      obtain ⟨h1, h2, h3⟩ := run_spec (s := s) hp f (i + 1) (by omega)
      refine ⟨by omega, fun k h4 h5 => ?_, h3⟩
      by_cases hk : k = i
      · subst hk; exact hy
      · exact h2 k (by omega) h5
    · rename_i hn
      exact ⟨Nat.le_refl _, fun k h1 h2 => by omega, by simpa using hn⟩
theorem rend_spec {p : Nat → Bool} {s : ByteArray} (hp : p 256 = false) (i : Nat) : i ≤ rend p s i ∧ (∀ k, i ≤ k → k < rend p s i → p (bt s k) = true) ∧ p (bt s (rend p s i)) = false := run_spec hp _ _ (Nat.le_refl _)
theorem rend_is {p : Nat → Bool} {s : ByteArray} (hp : p 256 = false) {i e : Nat} (h1 : i ≤ e) (h2 : ∀ k, i ≤ k → k < e → p (bt s k) = true) (h3 : p (bt s e) = false) : rend p s i = e := by
  obtain ⟨g1, g2, g3⟩ := rend_spec (s := s) hp i
  rcases Nat.lt_trichotomy (rend p s i) e with h | h | h
  · rw [h2 _ g1 h] at g3; cases g3
  · exact h
  · rw [g2 _ h1 h] at h3; cases h3
theorem rend_no {p : Nat → Bool} {s : ByteArray} (hp : p 256 = false) {i : Nat} (h : p (bt s i) = false) : rend p s i = i := rend_is hp (Nat.le_refl _) (fun k h1 h2 => by omega) h
theorem rend_yes {p : Nat → Bool} {s : ByteArray} (hp : p 256 = false) {i : Nat} (h : p (bt s i) = true) : rend p s i = rend p s (i + 1) := by
  obtain ⟨g1, g2, g3⟩ := rend_spec (s := s) hp (i + 1)
  refine rend_is hp (by omega) (fun k h1 h2 => ?_) g3
  by_cases hk : k = i
  · subst hk; exact h
  · exact g2 k (by omega) h2
theorem rend_le {p : Nat → Bool} {s : ByteArray} (hp : p 256 = false) {i : Nat} (h : i ≤ s.size) : rend p s i ≤ s.size := by
  obtain ⟨g1, g2, _⟩ := rend_spec (s := s) hp i
  refine Nat.le_of_not_lt fun hlt => ?_
  have := g2 s.size h hlt
  rw [bt_out (Nat.lt_irrefl _), hp] at this
  cases this
theorem dg256 : dg 256 = false := rfl
theorem wc256 : wc 256 = false := rfl

/-! ### Comments -/
def opens (s : ByteArray) (i : Nat) : Bool := decide (bt s i = 40) && decide (bt s (i + 1) = 42)
def shuts (s : ByteArray) (i : Nat) : Bool := decide (bt s i = 42) && decide (bt s (i + 1) = 41)
theorem opens_iff {s : ByteArray} {i : Nat} : opens s i = true ↔ bt s i = 40 ∧ bt s (i + 1) = 42 := by simp [opens]
theorem shuts_iff {s : ByteArray} {i : Nat} : shuts s i = true ↔ bt s i = 42 ∧ bt s (i + 1) = 41 := by simp [shuts]
theorem opens_lt {s : ByteArray} {i : Nat} (h : opens s i = true) : i + 2 ≤ s.size := by
  have := lt_of_bt (s := s) (i := i + 1) (by rw [(opens_iff.1 h).2]; omega); omega
theorem shuts_lt {s : ByteArray} {i : Nat} (h : shuts s i = true) : i + 2 ≤ s.size := by
  have := lt_of_bt (s := s) (i := i + 1) (by rw [(shuts_iff.1 h).2]; omega); omega
theorem shuts_not {s : ByteArray} {i : Nat} (h : opens s i = true) : shuts s i = false := by
  cases hs : shuts s i
  · rfl
  · have := (opens_iff.1 h).1; have := (shuts_iff.1 hs).1; omega
/-- Where d comments that are open at i end; 0: they don't. -/
def cmf (s : ByteArray) : Nat → Nat → Nat → Nat
  | 0, _, _ => 0
  | f + 1, i, d => if i < s.size then (if opens s i = true then cmf s f (i + 2) (d + 1) else if shuts s i = true then (if d = 1 then i + 2 else cmf s f (i + 2) (d - 1)) else cmf s f (i + 1) d) else 0
theorem cmf_fuel {s : ByteArray} : ∀ f g i d, s.size - i ≤ f → s.size - i ≤ g → cmf s f i d = cmf s g i d
  | 0, 0, _, _, _, _ => rfl
  | 0, g + 1, i, d, h, _ => by simp only [cmf]; rw [if_neg (by omega)]
  | f + 1, 0, i, d, _, h => by simp only [cmf]; rw [if_neg (by omega)]
  | f + 1, g + 1, i, d, h1, h2 => by
    simp only [cmf]
    rw [cmf_fuel f g (i + 2) (d + 1) (by omega) (by omega), cmf_fuel f g (i + 2) (d - 1) (by omega) (by omega), cmf_fuel f g (i + 1) d (by omega) (by omega)]
def cm (s : ByteArray) (i d : Nat) : Nat := cmf s (s.size - i) i d
theorem cm_step {s : ByteArray} {i d : Nat} (h : i < s.size) : cm s i d = if opens s i = true then cm s (i + 2) (d + 1) else if shuts s i = true then (if d = 1 then i + 2 else cm s (i + 2) (d - 1)) else cm s (i + 1) d := by
  unfold cm
  obtain ⟨f, hf⟩ : ∃ f, s.size - i = f + 1 := ⟨s.size - i - 1, by omega⟩
  rw [hf]
  simp only [cmf]
  rw [if_pos h, cmf_fuel f (s.size - (i + 2)) (i + 2) (d + 1) (by omega) (by omega), cmf_fuel f (s.size - (i + 2)) (i + 2) (d - 1) (by omega) (by omega), cmf_fuel f (s.size - (i + 1)) (i + 1) d (by omega) (by omega)]
theorem cm_out {s : ByteArray} {i d : Nat} (h : ¬ i < s.size) : cm s i d = 0 := by
  unfold cm
  rw [show s.size - i = 0 by omega]; rfl
theorem cm_open {s : ByteArray} {i d : Nat} (h : opens s i = true) : cm s i d = cm s (i + 2) (d + 1) := by rw [cm_step (by have := opens_lt h; omega), if_pos h]
theorem cm_shut {s : ByteArray} {i d : Nat} (h : shuts s i = true) (hd : d ≠ 1) : cm s i d = cm s (i + 2) (d - 1) := by
  rw [cm_step (by have := shuts_lt h; omega), if_neg (by intro ho; rw [shuts_not ho] at h; cases h), if_pos h, if_neg hd]
theorem cm_last {s : ByteArray} {i : Nat} (h : shuts s i = true) : cm s i 1 = i + 2 := by
  rw [cm_step (by have := shuts_lt h; omega), if_neg (by intro ho; rw [shuts_not ho] at h; cases h), if_pos h, if_pos rfl]
theorem cm_next {s : ByteArray} {i d : Nat} (h : i < s.size) (h1 : opens s i = false) (h2 : shuts s i = false) : cm s i d = cm s (i + 1) d := by
  rw [cm_step h, if_neg (by simp [h1]), if_neg (by simp [h2])]
theorem cm_pos {s : ByteArray} : ∀ (f i d : Nat), s.size - i ≤ f → cm s i d ≠ 0 → i + 2 ≤ cm s i d ∧ cm s i d ≤ s.size
  | 0, i, d, h, hn => absurd (cm_out (by omega)) hn
  | f + 1, i, d, h, hn => by
    by_cases hi : i < s.size
    · rw [cm_step hi] at hn ⊢
      split
      · rename_i ho
        rw [if_pos ho] at hn
        have := cm_pos f _ _ (by have := opens_lt ho; omega) hn; omega
      · rename_i ho
        rw [if_neg ho] at hn
        split
        · rename_i hs
          rw [if_pos hs] at hn
          split
          · exact ⟨Nat.le_refl _, shuts_lt hs⟩
          · rename_i hd
            rw [if_neg hd] at hn
            have := cm_pos f _ _ (by have := shuts_lt hs; omega) hn; omega
        · rename_i hs
          rw [if_neg hs] at hn
          have := cm_pos f _ _ (by omega) hn; omega
    · exact absurd (cm_out hi) hn

/-! ### What is skipped -/
def skf (s : ByteArray) : Nat → Nat → Nat × Bool
  | 0, i => (i, true)
  | f + 1, i => if bl (bt s i) = true then skf s f (i + 1) else if opens s i = true then (if cm s (i + 2) 1 = 0 then (i, false) else skf s f (cm s (i + 2) 1)) else (i, true)
theorem skf_fuel {s : ByteArray} : ∀ f g i, s.size - i ≤ f → s.size - i ≤ g → skf s f i = skf s g i
  | 0, 0, _, _, _ => rfl
  | 0, g + 1, i, h, _ => by
    have hb := bt_out (s := s) (i := i) (by omega)
    simp only [skf, hb, opens]
    rfl
  | f + 1, 0, i, _, h => by
    have hb := bt_out (s := s) (i := i) (by omega)
    simp only [skf, hb, opens]
    rfl
  | f + 1, g + 1, i, h1, h2 => by
    simp only [skf]
    rw [skf_fuel f g (i + 1) (by omega) (by omega)]
    by_cases hz : cm s (i + 2) 1 = 0
    · rw [if_pos hz, if_pos hz]
    · have := (cm_pos _ _ _ (Nat.le_refl _) hz).1
      rw [if_neg hz, if_neg hz, skf_fuel f g (cm s (i + 2) 1) (by omega) (by omega)]
/-- The first byte from i on that is neither blank nor a comment's; or the comment that is not closed, and false. -/
def sk (s : ByteArray) (i : Nat) : Nat × Bool := skf s (s.size - i) i
theorem sk_step {s : ByteArray} {i : Nat} : sk s i = if bl (bt s i) = true then sk s (i + 1) else if opens s i = true then (if cm s (i + 2) 1 = 0 then (i, false) else sk s (cm s (i + 2) 1)) else (i, true) := by
  unfold sk
  rw [skf_fuel (s.size - i) (s.size - i + 1) i (Nat.le_refl _) (by omega)]
  simp only [skf]
  rw [skf_fuel (s.size - i) (s.size - (i + 1)) (i + 1) (by omega) (by omega)]
  by_cases hz : cm s (i + 2) 1 = 0
  · rw [if_pos hz, if_pos hz]
  · have := (cm_pos _ _ _ (Nat.le_refl _) hz).1
    rw [if_neg hz, if_neg hz, skf_fuel (s.size - i) (s.size - cm s (i + 2) 1) (cm s (i + 2) 1) (by omega) (by omega)]
theorem bl_opens {s : ByteArray} {i : Nat} (h : opens s i = true) : bl (bt s i) = false := by rw [(opens_iff.1 h).1]; rfl
theorem sk_blank {s : ByteArray} {i : Nat} (h : bl (bt s i) = true) : sk s i = sk s (i + 1) := by rw [sk_step, if_pos h]
theorem sk_open {s : ByteArray} {i : Nat} (h : opens s i = true) (hz : cm s (i + 2) 1 = 0) : sk s i = (i, false) := by rw [sk_step, bl_opens h, if_neg (by simp), if_pos h, if_pos hz]
theorem sk_over {s : ByteArray} {i : Nat} (h : opens s i = true) (hz : cm s (i + 2) 1 ≠ 0) : sk s i = sk s (cm s (i + 2) 1) := by rw [sk_step, bl_opens h, if_neg (by simp), if_pos h, if_neg hz]
theorem sk_stop {s : ByteArray} {i : Nat} (h1 : bl (bt s i) = false) (h2 : opens s i = false) : sk s i = (i, true) := by rw [sk_step, if_neg (by simp [h1]), if_neg (by simp [h2])]
theorem sk_end {s : ByteArray} {i : Nat} (h : ¬ i < s.size) : sk s i = (i, true) := sk_stop (by rw [bt_out h]; rfl) (by unfold opens; rw [bt_out h]; rfl)
theorem bl_lt {s : ByteArray} {i : Nat} (h : bl (bt s i) = true) : i < s.size := lt_of_bt (by have := bl_iff.1 h; omega)
/-- An induction along what is skipped. -/
theorem sk_ind {s : ByteArray} (M : Nat → Nat × Bool → Prop) (h0 : ∀ i, i ≤ s.size → bl (bt s i) = false → opens s i = false → M i (i, true)) (h1 : ∀ i, i ≤ s.size → opens s i = true → cm s (i + 2) 1 = 0 → M i (i, false))
    (h2 : ∀ i r, bl (bt s i) = true → M (i + 1) r → M i r) (h3 : ∀ i r, opens s i = true → cm s (i + 2) 1 ≠ 0 → M (cm s (i + 2) 1) r → M i r) : ∀ f i, i ≤ s.size → s.size - i ≤ f → M i (sk s i)
  | 0, i, hi, h => by
    have e : i = s.size := by omega
    rw [sk_end (by omega)]
    exact h0 i hi (by rw [bt_out (by omega)]; rfl) (by unfold opens; rw [bt_out (by omega)]; rfl)
  | f + 1, i, hi, h => by
    cases hb : bl (bt s i)
    · cases ho : opens s i
      · rw [sk_stop hb ho]; exact h0 i hi hb ho
      · by_cases hz : cm s (i + 2) 1 = 0
        · rw [sk_open ho hz]; exact h1 i hi ho hz
        · have hp := cm_pos _ _ _ (Nat.le_refl _) hz
          rw [sk_over ho hz]; exact h3 i _ ho hz (sk_ind M h0 h1 h2 h3 f _ (by omega) (by omega))
    · have := bl_lt hb
      rw [sk_blank hb]; exact h2 i _ hb (sk_ind M h0 h1 h2 h3 f _ (by omega) (by omega))
theorem sk_range {s : ByteArray} {i : Nat} (hi : i ≤ s.size) : i ≤ (sk s i).1 ∧ (sk s i).1 ≤ s.size ∧ ((sk s i).2 = false → (sk s i).1 < s.size) :=
  sk_ind (fun i r => i ≤ r.1 ∧ r.1 ≤ s.size ∧ (r.2 = false → r.1 < s.size)) (fun i h _ _ => ⟨Nat.le_refl _, h, fun h => by cases h⟩) (fun i h ho _ => ⟨Nat.le_refl _, h, fun _ => by have := opens_lt ho; show i < s.size; omega⟩)
    (fun i r _ h => ⟨by omega, h.2⟩) (fun i r _ hz h => ⟨by have := (cm_pos _ _ _ (Nat.le_refl _) hz).1; omega, h.2⟩) _ i hi (Nat.le_refl _)

/-! ### Symbols -/
def Sgs : List (List UInt8) := [[33], [40], [41], [42], [43], [44], [45], [45, 62], [58], [58, 61], [59], [60], [60, 61], [60, 62], [61], [61, 62], [95], [124], [126]]
def Kws : List (List UInt8) := [[97, 110, 100], [97, 110, 100, 97, 108, 115, 111], [97, 115], [99, 97, 115, 101], [100, 97, 116, 97, 116, 121, 112, 101], [100, 105, 118], [101, 108, 115, 101], [101, 110, 100], [101, 120, 99, 101, 112, 116, 105, 111, 110], [102, 110], [102, 117, 110], [104, 97, 110, 100, 108, 101], [105, 102], [105, 110], [108, 101, 116], [109, 111, 100], [111, 102], [111, 114, 101, 108, 115, 101], [112, 114, 105, 110, 116], [114, 97, 105, 115, 101], [114, 101, 97, 100], [114, 101, 102], [116, 104, 101, 110], [118, 97, 108]]
def isKw (l : List UInt8) : Bool := Kws.contains l
/-- t stands in s at i. -/
def pre (s : ByteArray) : Nat → List UInt8 → Bool
  | _, [] => true
  | i, c :: t => decide (bt s i = c.toNat) && pre s (i + 1) t
theorem pre_iff {s : ByteArray} : ∀ {t : List UInt8} {i : Nat}, pre s i t = true ↔ ∀ k (h : k < t.length), bt s (i + k) = t[k].toNat
  | [], i => by simp [pre]
  | c :: t, i => by
    simp only [pre, Bool.and_eq_true, decide_eq_true_eq, pre_iff (t := t)]
    constructor
    · rintro ⟨h1, h2⟩ k hk
      cases k with
      | zero => exact h1
      | succ k => have := h2 k (by simpa using hk); rw [show i + (k + 1) = i + 1 + k by omega]; simpa using this
    · intro h
      refine ⟨h 0 (Nat.zero_lt_succ _), fun k hk => ?_⟩
      have := h (k + 1) (by simpa using hk)
      rw [show i + 1 + k = i + (k + 1) by omega]; simpa using this
def longer (s : ByteArray) (i : Nat) (best t : List UInt8) : List UInt8 := if best.length < t.length ∧ pre s i t = true then t else best
def best (s : ByteArray) (i : Nat) (l : List (List UInt8)) : List UInt8 := l.foldl (longer s i) []
theorem best_nil (s : ByteArray) (i : Nat) : best s i [] = [] := rfl
theorem best_snoc (s : ByteArray) (i : Nat) (l : List (List UInt8)) (t : List UInt8) : best s i (l ++ [t]) = longer s i (best s i l) t := by simp [best]
theorem fold_spec {s : ByteArray} {i : Nat} : ∀ (l : List (List UInt8)) (b : List UInt8), pre s i b = true → let r := l.foldl (longer s i) b
    (r = b ∨ r ∈ l) ∧ pre s i r = true ∧ b.length ≤ r.length ∧ ∀ t ∈ l, pre s i t = true → t.length ≤ r.length
  | [], b, hb => ⟨.inl rfl, hb, Nat.le_refl _, fun t h => by cases h⟩
  | t :: l, b, hb => by
    have hc : pre s i (longer s i b t) = true := by unfold longer; split; exact (‹_ ∧ _›).2; exact hb
    have hl : b.length ≤ (longer s i b t).length := by unfold longer; split; omega; exact Nat.le_refl _
    have ht : pre s i t = true → t.length ≤ (longer s i b t).length := fun hp => by
      unfold longer
      by_cases h : b.length < t.length
      · rw [if_pos ⟨h, hp⟩]; exact Nat.le_refl _
      · rw [if_neg (fun h' => h h'.1)]; omega
    obtain ⟨h1, h2, h3, h4⟩ := fold_spec l (longer s i b t) hc
    refine ⟨?_, h2, Nat.le_trans hl h3, fun u hu hp => ?_⟩
    · rcases h1 with h1 | h1
      · simp only [List.foldl_cons] at h1 ⊢
        rw [h1]
        unfold longer
        split
        · exact .inr (List.mem_cons_self ..)
        · exact .inl rfl
      · exact .inr (List.mem_cons_of_mem _ h1)
    · rcases List.mem_cons.1 hu with rfl | hu
      · exact Nat.le_trans (ht hp) h3
      · exact h4 u hu hp
/-- The longest symbol at i. -/
def sy (s : ByteArray) (i : Nat) : List UInt8 := best s i Sgs
theorem sy_spec (s : ByteArray) (i : Nat) : (sy s i = [] ∨ sy s i ∈ Sgs) ∧ pre s i (sy s i) = true ∧ ∀ t ∈ Sgs, pre s i t = true → t.length ≤ (sy s i).length := by
  obtain ⟨h1, h2, _, h4⟩ := fold_spec (s := s) (i := i) Sgs [] rfl
  exact ⟨h1, h2, h4⟩

/-! ### Texts of tokens -/
theorem ext_size {s : ByteArray} {i e : Nat} (he : e ≤ s.size) : (s.extract i e).size = e - i := by rw [ByteArray.size_extract, Nat.min_eq_left he]
theorem bt_ext {s : ByteArray} {i e : Nat} (he : e ≤ s.size) (k : Nat) : bt (s.extract i e) k = if k < e - i then bt s (i + k) else 256 := by
  by_cases h : k < e - i
  · rw [if_pos h, bt_in (s := s.extract i e) (i := k) (by rw [ext_size he]; exact h), bt_in (s := s) (i := i + k) (by omega)]
    exact congrArg UInt8.toNat (ByteArray.getElem_extract ..)
  · rw [if_neg h, bt_out (by rw [ext_size he]; exact h)]
theorem ext_of_bt {s u : ByteArray} (hz : s.size = u.size) (h : ∀ k, k < s.size → bt s k = bt u k) : s = u := by
  apply ByteArray.ext
  apply Array.ext (by exact hz)
  intro k h1 h2
  have := h k h1
  rw [bt_in (show k < s.size from h1), bt_in (show k < u.size from h2)] at this
  exact UInt8.toNat_inj.1 this
theorem ext_eq_of {s u : ByteArray} {i e j f : Nat} (he : e ≤ s.size) (hf : f ≤ u.size) (hl : e - i = f - j) (h : ∀ k, k < e - i → bt s (i + k) = bt u (j + k)) : s.extract i e = u.extract j f := by
  refine ext_of_bt (by rw [ext_size he, ext_size hf]; exact hl) fun k hk => ?_
  have hk' : k < e - i := by rwa [ext_size he] at hk
  rw [bt_ext he, bt_ext hf, if_pos hk', if_pos (by omega), h k hk']
theorem bt_mk (t : List UInt8) (k : Nat) : bt ⟨t.toArray⟩ k = if h : k < t.length then t[k].toNat else 256 := by
  by_cases h : k < t.length
  · rw [dif_pos h, bt_in (show k < (ByteArray.mk t.toArray).size by simpa [ByteArray.size] using h)]; rfl
  · rw [dif_neg h, bt_out (by simpa [ByteArray.size] using h)]
theorem pre_size {s : ByteArray} {i : Nat} {t : List UInt8} (hi : i ≤ s.size) (h : pre s i t = true) : i + t.length ≤ s.size := by
  by_cases h0 : t.length = 0
  · omega
  · have := pre_iff.1 h (t.length - 1) (by omega)
    have := lt_of_bt (s := s) (i := i + (t.length - 1)) (by rw [this]; exact UInt8.toNat_lt _)
    omega
theorem mk_size (t : List UInt8) : (ByteArray.mk t.toArray).size = t.length := by simp [ByteArray.size]
theorem pre_ext {s : ByteArray} {i : Nat} {t : List UInt8} (hi : i ≤ s.size) (h : pre s i t = true) : s.extract i (i + t.length) = ⟨t.toArray⟩ := by
  have hz := pre_size hi h
  refine ext_of_bt (by rw [ext_size hz, mk_size]; omega) fun k hk => ?_
  have hk' : k < t.length := by rw [ext_size hz] at hk; omega
  rw [bt_ext hz, if_pos (by omega), bt_mk t k, dif_pos hk', pre_iff.1 h k hk']

structure Tk where
  kind : Int
  at_ : Int
  text : ByteArray
  n : Int

def vl (s : ByteArray) (i : Nat) : Nat → Nat
  | 0 => 0
  | k + 1 => 10 * vl s i k + (bt s (i + k) - 48)
def kindM (t : ByteArray) : Nat :=
  if dg (bt t 0) = true then 1 else if bt t 0 = 39 then 4 else if lt (bt t 0) = false then 6 else if t.data.toList = [95] then 6 else if isKw t.data.toList = true then 5
  else if t.data.toList = [116, 114, 117, 101] ∨ t.data.toList = [102, 97, 108, 115, 101] ∨ (65 ≤ bt t 0 ∧ bt t 0 ≤ 90) then 3 else 2
def nameLen (t : ByteArray) : Nat := if bt t 0 = 39 then t.size - 1 else t.size
/-- What is wrong with a token of this text; 0: nothing. -/
def tokErr (t : ByteArray) (g : Bool) : Nat :=
  if t.size = 0 then 11 else if kindM t = 1 then (if (1 < t.size ∧ bt t 0 = 48) ∨ 1073741824 < vl t 0 t.size ∨ (vl t 0 t.size = 1073741824 ∧ g = false) then 13 else 0)
  else if kindM t = 2 ∨ kindM t = 3 ∨ kindM t = 4 then (if 32 < nameLen t then 4 else 0) else 0
def tokN (t : ByteArray) : Nat := if kindM t = 1 then vl t 0 t.size else 0
def tokOf (t : ByteArray) (a : Nat) : Tk := ⟨(kindM t : Nat), a, t, (tokN t : Nat)⟩
/-- Where the token at i ends. -/
def tokEnd (s : ByteArray) (i : Nat) : Nat :=
  if dg (bt s i) = true then rend dg s (i + 1) else if lt (bt s i) = true ∨ (bt s i = 39 ∧ lt (bt s (i + 1)) = true) then rend wc s (i + 1) else i + (sy s i).length

inductive St where
  | bad (k a : Nat)
  | fin
  | tok (t : Tk) (e : Nat)
def neg (acc : List Tk) : Bool := match acc.getLast? with | some t => decide (t.text.data.toList = [126]) | none => false
def one (s : ByteArray) (i c : Nat) (g : Bool) : St :=
  if (sk s i).2 = false then .bad 12 (sk s i).1 else if (sk s i).1 = s.size then .fin else if c = 16384 then .bad 4 (sk s i).1
  else if tokErr (s.extract (sk s i).1 (tokEnd s (sk s i).1)) g ≠ 0 then .bad (tokErr (s.extract (sk s i).1 (tokEnd s (sk s i).1)) g) (sk s i).1
  else .tok (tokOf (s.extract (sk s i).1 (tokEnd s (sk s i).1)) (sk s i).1) (tokEnd s (sk s i).1)
def sc (s : ByteArray) : Nat → Nat → List Tk → Nat × Nat × List Tk
  | 0, _, _ => (0, 0, [])
  | f + 1, i, acc => match one s i acc.length (neg acc) with
    | .bad k a => (k, a, [])
    | .fin => (0, 0, acc)
    | .tok t e => sc s f e (acc ++ [t])
/-- Kind and offset of the first error (0, 0: none), and the tokens. -/
def scanM (s : ByteArray) : Nat × Nat × List Tk := if 65536 < s.size then (4, 0, []) else sc s (s.size + 1) 0 []
inductive Reach (s : ByteArray) : Nat → List Tk → Prop
  | start : Reach s 0 []
  | step {i : Nat} {acc : List Tk} {t : Tk} {e : Nat} : Reach s i acc → one s i acc.length (neg acc) = .tok t e → Reach s e (acc ++ [t])

theorem tokEnd_ge {s : ByteArray} {i : Nat} : i ≤ tokEnd s i := by
  unfold tokEnd
  split
  · have := (rend_spec (s := s) dg256 (i + 1)).1; omega
  · split
    · have := (rend_spec (s := s) wc256 (i + 1)).1; omega
    · omega
theorem tokEnd_le {s : ByteArray} {i : Nat} (h : i < s.size) : tokEnd s i ≤ s.size := by
  unfold tokEnd
  split
  · exact rend_le dg256 (by omega)
  · split
    · exact rend_le wc256 (by omega)
    · exact pre_size (by omega) (sy_spec s i).2.1
/-- What a token tells of the text. -/
theorem one_tok {s : ByteArray} {i c : Nat} {g : Bool} {t : Tk} {e : Nat} (h : one s i c g = .tok t e) : ∃ a, sk s i = (a, true) ∧ a ≠ s.size ∧ c ≠ 16384 ∧ e = tokEnd s a ∧ tokErr (s.extract a e) g = 0 ∧ t = tokOf (s.extract a e) a := by
  unfold one at h
  split at h
  · cases h
  · rename_i h1
    split at h
    · cases h
    · rename_i h2
      split at h
      · cases h
      · rename_i h3
        split at h
        · cases h
        · rename_i h4
          injection h with h5 h6
          refine ⟨(sk s i).1, ?_, h2, h3, h6.symm, ?_, ?_⟩
          · apply Prod.ext; rfl; simpa using h1
          · rw [← h6]; simpa using h4
          · rw [← h6]; exact h5.symm
theorem tokErr_pos {t : ByteArray} {g : Bool} (h : tokErr t g = 0) : 0 < t.size := by
  unfold tokErr at h
  split at h
  · cases h
  · omega
theorem one_range {s : ByteArray} {i c : Nat} {g : Bool} {t : Tk} {e : Nat} (hi : i ≤ s.size) (h : one s i c g = .tok t e) : i < e ∧ e ≤ s.size := by
  obtain ⟨a, h1, h2, h3, rfl, h4, _⟩ := one_tok h
  have hr := sk_range hi
  rw [h1] at hr
  simp only at hr
  have := tokErr_pos h4
  have := tokEnd_le (s := s) (i := a) (by omega)
  simp at *
  omega
theorem reach_le {s : ByteArray} {i : Nat} {acc : List Tk} (h : Reach s i acc) : i ≤ s.size ∧ acc.length ≤ i := by
  induction h with
  | start => exact ⟨Nat.zero_le _, Nat.le_refl _⟩
  | step _ h1 ih => have := one_range ih.1 h1; simp; omega
theorem reach_sc {s : ByteArray} {i : Nat} {acc : List Tk} (h : Reach s i acc) : ∃ f, s.size < f + i ∧ sc s (s.size + 1) 0 [] = sc s f i acc := by
  induction h with
  | start => exact ⟨s.size + 1, by omega, rfl⟩
  | @step i acc t e hr h1 ih =>
    obtain ⟨f, hf, he⟩ := ih
    have h2 := one_range (reach_le hr).1 h1
    obtain ⟨f, rfl⟩ : ∃ f', f = f' + 1 := ⟨f - 1, by omega⟩
    refine ⟨f, by omega, ?_⟩
    rw [he]
    simp only [sc, h1]
theorem scan_bad {s : ByteArray} {i k a : Nat} {acc : List Tk} (hs : s.size ≤ 65536) (h : Reach s i acc) (h1 : one s i acc.length (neg acc) = .bad k a) : scanM s = (k, a, []) := by
  obtain ⟨f, hf, he⟩ := reach_sc h
  have := (reach_le h).1
  obtain ⟨f, rfl⟩ : ∃ f', f = f' + 1 := ⟨f - 1, by omega⟩
  unfold scanM
  rw [if_neg (by omega), he]
  simp only [sc, h1]
theorem scan_fin {s : ByteArray} {i : Nat} {acc : List Tk} (hs : s.size ≤ 65536) (h : Reach s i acc) (h1 : one s i acc.length (neg acc) = .fin) : scanM s = (0, 0, acc) := by
  obtain ⟨f, hf, he⟩ := reach_sc h
  have := (reach_le h).1
  obtain ⟨f, rfl⟩ : ∃ f', f = f' + 1 := ⟨f - 1, by omega⟩
  unfold scanM
  rw [if_neg (by omega), he]
  simp only [sc, h1]
theorem scan_long {s : ByteArray} (hs : 65536 < s.size) : scanM s = (4, 0, []) := by unfold scanM; rw [if_pos hs]
/-- How a scan ends. -/
theorem scan_reach {s : ByteArray} (hs : s.size ≤ 65536) : ∃ i acc, Reach s i acc ∧ ((one s i acc.length (neg acc) = .fin ∧ scanM s = (0, 0, acc)) ∨ ∃ k a, one s i acc.length (neg acc) = .bad k a ∧ scanM s = (k, a, [])) := by
  have main : ∀ f i acc, Reach s i acc → s.size < f + i → ∃ i acc, Reach s i acc ∧ (one s i acc.length (neg acc) = .fin ∨ ∃ k a, one s i acc.length (neg acc) = .bad k a) := by
    intro f
    induction f with
    | zero => intro i acc h hf; have := (reach_le h).1; omega
    | succ f ih =>
      intro i acc h hf
      cases ho : one s i acc.length (neg acc) with
      | bad k a => exact ⟨i, acc, h, .inr ⟨k, a, ho⟩⟩
      | fin => exact ⟨i, acc, h, .inl ho⟩
      | tok t e => exact ih e _ (.step h ho) (by have := one_range (reach_le h).1 ho; omega)
  obtain ⟨i, acc, h, h1 | ⟨k, a, h1⟩⟩ := main (s.size + 1) 0 [] .start (by omega)
  · exact ⟨i, acc, h, .inl ⟨h1, scan_fin hs h h1⟩⟩
  · exact ⟨i, acc, h, .inr ⟨k, a, h1, scan_bad hs h h1⟩⟩
end Go.Proofs.YtoopopjcojphaaaGreatDoor.Lx
