/-
  PLAIN MATHEMATICS OF TYPES: a type as a tree, its nodes in order, a walk over them that may stop. Nothing of the program is named here.
-/
import Derived.Test.YtgdclchpccbifaaNmM
namespace Go.Proofs.Ytgdclchpccbifaa

/-- A type: kind, number, name, arguments. -/
inductive Tt where
  | mk (k n : Int) (s : ByteArray) (l : List Tt)
def Tt.kind : Tt → Int | .mk k _ _ _ => k
def Tt.num : Tt → Int | .mk _ n _ _ => n
def Tt.name : Tt → ByteArray | .mk _ _ s _ => s
def Tt.args : Tt → List Tt | .mk _ _ _ l => l
theorem Tt.eta (t : Tt) : Tt.mk t.kind t.num t.name t.args = t := by cases t; rfl
mutual
/-- The nodes, each before its arguments'. -/
def pre : Tt → List Tt
  | .mk k n s l => .mk k n s l :: preL l
def preL : List Tt → List Tt
  | [] => []
  | t :: r => pre t ++ preL r
end
mutual
/-- All that a type holds: nodes and letters. -/
def bulk : Tt → Nat
  | .mk _ _ s l => s.size + 4 + bulkL l
def bulkL : List Tt → Nat
  | [] => 0
  | t :: r => bulk t + bulkL r
end
theorem preL_append (a b : List Tt) : preL (a ++ b) = preL a ++ preL b := by
  induction a with
  | nil => rfl
  | cons t r ih => simp [preL, ih]
theorem preL_snoc (a : List Tt) (t : Tt) : preL (a ++ [t]) = preL a ++ pre t := by rw [preL_append]; simp [preL]
theorem preL_take (l : List Tt) (k : Nat) (h : k < l.length) : preL (l.take (k + 1)) = preL (l.take k) ++ pre l[k] := by
  rw [List.take_succ_eq_append_getElem h, preL_snoc]
theorem bulkL_append (a b : List Tt) : bulkL (a ++ b) = bulkL a + bulkL b := by
  induction a with
  | nil => simp [bulkL]
  | cons t r ih => simp only [List.cons_append, bulkL, ih]; omega
theorem bulkL_take (l : List Tt) (k : Nat) (h : k < l.length) : bulkL (l.take (k + 1)) = bulkL (l.take k) + bulk l[k] := by
  rw [List.take_succ_eq_append_getElem h, bulkL_append]; simp [bulkL]
theorem bulk_mem {l : List Tt} {t : Tt} (h : t ∈ l) : bulk t ≤ bulkL l := by
  induction l with
  | nil => cases h
  | cons x r ih =>
    rcases List.mem_cons.1 h with rfl | h
    · simp [bulkL]
    · have := ih h; simp [bulkL]; omega
theorem bulk_pos (t : Tt) : 4 ≤ bulk t := by cases t; simp only [bulk]; omega
theorem bulkL_len (l : List Tt) : 4 * l.length ≤ bulkL l := by
  induction l with
  | nil => simp
  | cons t r ih => have := bulk_pos t; simp only [bulkL, List.length_cons]; omega
mutual
theorem pre_le : ∀ t : Tt, 4 * (pre t).length ≤ bulk t
  | .mk k n s l => by have := preL_le l; simp only [pre, bulk, List.length_cons]; omega
theorem preL_le : ∀ l : List Tt, 4 * (preL l).length ≤ bulkL l
  | [] => by simp [preL]
  | t :: r => by have := pre_le t; have := preL_le r; simp only [preL, bulkL, List.length_append]; omega
end
mutual
theorem pre_bulk : ∀ (t u : Tt), u ∈ pre t → bulk u ≤ bulk t
  | .mk k n s l, u, h => by
    simp only [pre] at h
    rcases List.mem_cons.1 h with rfl | h
    · exact Nat.le_refl _
    · have := preL_bulk l u h; simp only [bulk]; omega
theorem preL_bulk : ∀ (l : List Tt) (u : Tt), u ∈ preL l → bulk u ≤ bulkL l
  | [], u, h => by simp [preL] at h
  | t :: r, u, h => by
    simp only [preL] at h
    rcases List.mem_append.1 h with h | h
    · have := pre_bulk t u h; simp only [bulkL]; omega
    · have := preL_bulk r u h; simp only [bulkL]; omega
end

theorem mem_preL {l : List Tt} {t u : Tt} (ht : t ∈ l) (hu : u ∈ pre t) : u ∈ preL l := by
  induction l with
  | nil => cases ht
  | cons x r ih =>
    simp only [preL]
    rcases List.mem_cons.1 ht with rfl | ht
    · exact List.mem_append_left _ hu
    · exact List.mem_append_right _ (ih ht)
/-! ### A walk that may stop -/
section
variable {σ α : Type} (step : σ → α → σ × Bool)
def scan : σ → List α → σ × Bool
  | s, [] => (s, true)
  | s, t :: r => if (step s t).2 = true then scan (step s t).1 r else ((step s t).1, false)
theorem scan_nil (s : σ) : scan step s [] = (s, true) := rfl
theorem scan_yes {s : σ} {t : α} (h : (step s t).2 = true) (r : List α) : scan step s (t :: r) = scan step (step s t).1 r := by simp [scan, h]
theorem scan_no {s : σ} {t : α} (h : (step s t).2 = false) (r : List α) : scan step s (t :: r) = ((step s t).1, false) := by simp [scan, h]
theorem scan_append (a b : List α) (s : σ) : scan step s (a ++ b) = if (scan step s a).2 = true then scan step (scan step s a).1 b else scan step s a := by
  induction a generalizing s with
  | nil => rfl
  | cons t r ih =>
    by_cases h : (step s t).2 = true
    · rw [List.cons_append, scan_yes step h, scan_yes step h, ih]
    · have h' : (step s t).2 = false := by simpa using h
      rw [List.cons_append, scan_no step h', scan_no step h']; rfl
theorem scan_app_yes {a : List α} {s : σ} (b : List α) (h : (scan step s a).2 = true) : scan step s (a ++ b) = scan step (scan step s a).1 b := by rw [scan_append, if_pos h]
theorem scan_app_no {a : List α} {s : σ} (b : List α) (h : (scan step s a).2 = false) : scan step s (a ++ b) = scan step s a := by rw [scan_append, if_neg (by simp [h])]
/-- All that the walk comes to is good in the state in which it comes to it. -/
def goods (good : σ → α → Prop) : σ → List α → Prop
  | _, [] => True
  | s, t :: r => good s t ∧ ((step s t).2 = true → goods good (step s t).1 r)
theorem goods_append {good : σ → α → Prop} (a b : List α) (s : σ) : goods step good s (a ++ b) ↔ goods step good s a ∧ ((scan step s a).2 = true → goods step good (scan step s a).1 b) := by
  induction a generalizing s with
  | nil => simp [goods, scan]
  | cons t r ih =>
    by_cases h : (step s t).2 = true
    · simp only [List.cons_append, goods, scan_yes step h, h, true_imp_iff, ih, and_assoc]
    · have h' : (step s t).2 = false := by simpa using h
      simp [goods, scan_no step h', h']
theorem goods_of {good : σ → α → Prop} (m : σ → Nat) (M : Nat) (hm : ∀ s t, m (step s t).1 ≤ m s + 1) (hg : ∀ s t, m s + 1 ≤ M → good s t) : ∀ (l : List α) (s : σ), m s + l.length ≤ M → goods step good s l
  | [], _, _ => trivial
  | t :: r, s, h => ⟨hg s t (by simp at h; omega), fun _ => goods_of m M hm hg r _ (by have := hm s t; simp at h; omega)⟩
theorem goods_all {good : σ → α → Prop} (hg : ∀ s t, good s t) : ∀ (l : List α) (s : σ), goods step good s l
  | [], _ => trivial
  | t :: r, s => ⟨hg s t, fun _ => goods_all hg r _⟩
theorem scan_pre_no {t : Tt} {k n : Int} {nm : ByteArray} {l : List Tt} {step : σ → Tt → σ × Bool} {s : σ} (e : t = .mk k n nm l) (h : (step s t).2 = false) : scan step s (pre t) = ((step s t).1, false) := by
  subst e; simp only [pre]; exact scan_no step h _
end
/-! ### A copy, with something else in the place of each variable -/
mutual
def cp (g : Tt → Tt) : Tt → Tt
  | .mk k n s l => if k = 1 then g (.mk k n s (cpL g l)) else .mk k n s (cpL g l)
def cpL (g : Tt → Tt) : List Tt → List Tt
  | [] => []
  | t :: r => cp g t :: cpL g r
end
theorem cpL_map (g : Tt → Tt) (l : List Tt) : cpL g l = l.map (cp g) := by
  induction l with
  | nil => rfl
  | cons t r ih => simp [cpL, ih]
theorem cp_var {g : Tt → Tt} {k n : Int} {s : ByteArray} {l : List Tt} (h : k = 1) : cp g (.mk k n s l) = g (.mk k n s (l.map (cp g))) := by rw [cp, if_pos h, cpL_map]
theorem cp_con {g : Tt → Tt} {k n : Int} {s : ByteArray} {l : List Tt} (h : k ≠ 1) : cp g (.mk k n s l) = .mk k n s (l.map (cp g)) := by rw [cp, if_neg h, cpL_map]
theorem take_map {α β : Type} (f : α → β) (l : List α) (k : Nat) (h : k < l.length) : (l.take (k + 1)).map f = (l.take k).map f ++ [f l[k]] := by rw [List.take_succ_eq_append_getElem h, List.map_append]; rfl
mutual
theorem cp_id : ∀ t : Tt, cp id t = t
  | .mk k n s l => by rw [cp, cpL_id l]; split <;> rfl
theorem cpL_id : ∀ l : List Tt, cpL id l = l
  | [] => rfl
  | t :: r => by rw [cpL, cp_id t, cpL_id r]
end
/-! ### Are types the same? -/
mutual
def sameT : Tt → Tt → Bool
  | .mk k n s l, .mk k' n' s' l' => decide (k = k') && decide (n = n') && decide (s = s') && decide (l.length = l'.length) && sameL l l'
def sameL : List Tt → List Tt → Bool
  | [], _ => true
  | _ :: _, [] => true
  | a :: r, b :: q => sameT a b && sameL r q
end
mutual
theorem sameT_iff : ∀ a b : Tt, sameT a b = true ↔ a = b
  | .mk k n s l, .mk k' n' s' l' => by
    simp only [sameT, Bool.and_eq_true, decide_eq_true_eq, Tt.mk.injEq]
    constructor
    · rintro ⟨⟨⟨⟨h1, h2⟩, h3⟩, h4⟩, h5⟩
      exact ⟨h1, h2, h3, (sameL_iff l l' h4).1 h5⟩
    · rintro ⟨h1, h2, h3, h4⟩
      exact ⟨⟨⟨⟨h1, h2⟩, h3⟩, by rw [h4]⟩, (sameL_iff l l' (by rw [h4])).2 h4⟩
theorem sameL_iff : ∀ a b : List Tt, a.length = b.length → (sameL a b = true ↔ a = b)
  | [], [], _ => by simp [sameL]
  | [], _ :: _, h => by simp at h
  | _ :: _, [], h => by simp at h
  | a :: r, b :: q, h => by
    simp only [sameL, Bool.and_eq_true, List.cons.injEq]
    rw [sameT_iff a b, sameL_iff r q (by simpa using h)]
end
theorem sameT_refl (a : Tt) : sameT a a = true := (sameT_iff a a).2 rfl
theorem sameL_take {l m : List Tt} {k : Nat} (h1 : k < l.length) (h2 : k < m.length) (h : sameL (l.take k) (m.take k) = true) : sameL (l.take (k + 1)) (m.take (k + 1)) = sameT l[k] m[k] := by
  induction l generalizing m k with
  | nil => simp at h1
  | cons a r ih =>
    cases m with
    | nil => simp at h2
    | cons b q =>
      cases k with
      | zero => simp [sameL]
      | succ k =>
        simp only [List.take_succ_cons, sameL, Bool.and_eq_true] at h
        simp only [List.take_succ_cons, sameL, h.1, Bool.true_and, List.getElem_cons_succ]
        exact ih (by simpa using h1) (by simpa using h2) h.2
theorem sameL_stop {l m : List Tt} {k : Nat} (h : sameL (l.take k) (m.take k) = false) : sameL l m = false := by
  induction l generalizing m k with
  | nil => simp [sameL] at h
  | cons a r ih =>
    cases m with
    | nil => cases k <;> simp [sameL] at h
    | cons b q =>
      cases k with
      | zero => simp [sameL] at h
      | succ k =>
        simp only [List.take_succ_cons, sameL, Bool.and_eq_false_iff] at h ⊢
        exact h.imp id fun h => ih h
/-! ### Variables, as they come first -/
def vstep (vs : List Int) (t : Tt) : List Int × Bool := (if t.kind = 1 ∧ t.num ∉ vs then vs ++ [t.num] else vs, true)
def varsT (t : Tt) : List Int := (scan vstep [] (pre t)).1
theorem scan_true {σ α : Type} {step : σ → α → σ × Bool} (h : ∀ s a, (step s a).2 = true) : ∀ (l : List α) (s : σ), (scan step s l).2 = true
  | [], _ => rfl
  | a :: r, s => by rw [scan_yes step (h s a)]; exact scan_true h r _
theorem goods_kid {σ : Type} {step : σ → Tt → σ × Bool} {good : σ → Tt → Prop} {s : σ} {l : List Tt} {k : Nat} (hk : k < l.length) (h : goods step good s (preL l)) (hy : (scan step s (preL (l.take k))).2 = true) : goods step good (scan step s (preL (l.take k))).1 (pre l[k]) := by
  have e : l = l.take k ++ (l[k] :: l.drop (k + 1)) := by rw [List.getElem_cons_drop, List.take_append_drop]
  rw [e, preL_append, goods_append] at h
  have h2 := h.2 hy
  rw [preL, goods_append] at h2
  exact h2.1
/-! ### Is a node right? -/
def goodB (t : Tt) : Bool :=
  if t.kind = 1 then decide (0 ≤ t.num) && decide (t.name = ⟨#[]⟩) && decide (t.args.length = 0)
  else if t.kind ≠ 2 ∨ t.num ≠ 0 then false
  else if t.name ≠ ⟨#[114, 101, 102]⟩ ∧ t.name ≠ ⟨#[45, 62]⟩ ∧ t.name ≠ ⟨#[42]⟩ ∧ lowB t.name = false then false
  else decide ((argsB t.name).1 ≤ t.args.length) && decide ((t.args.length : Int) ≤ (argsB t.name).2)
def formedT (t : Tt) : Bool := (pre t).all goodB
/-! ### The reference's places, Put, renamed -/
def placeR (vs : List Int) (x : Int) : Int := if x ∈ vs then vs.idxOf x else -1
theorem vstep_take {P : List Tt} {j : Nat} (h : j < P.length) : (scan vstep [] (P.take (j + 1))).1 = (vstep (scan vstep [] (P.take j)).1 P[j]).1 := by
  rw [List.take_succ_eq_append_getElem h, scan_app_yes vstep _ (scan_true (fun _ _ => rfl) _ _), scan_yes vstep rfl]; rfl
theorem vscan_le (P : List Tt) : ∀ (s : List Int), (scan vstep s P).1.length ≤ s.length + P.length := by
  induction P with
  | nil => intro s; simp [scan]
  | cons a r ih =>
    intro s
    rw [scan_yes vstep rfl]
    have h1 := ih (vstep s a).1
    have h2 : (vstep s a).1.length ≤ s.length + 1 := by unfold vstep; simp only; split <;> simp
    simp; omega
mutual
def rputT (ls : List Tt) : Tt → Tt
  | .mk k n s l => if k = 1 then (if h : 0 ≤ n ∧ n < ls.length then ls[n.toNat]'(by omega) else .mk k n s l) else .mk k n s (rputL ls l)
def rputL (ls : List Tt) : List Tt → List Tt
  | [] => []
  | t :: r => rputT ls t :: rputL ls r
end
theorem rputL_map (ls : List Tt) (l : List Tt) : rputL ls l = l.map (rputT ls) := by
  induction l with
  | nil => rfl
  | cons t r ih => simp [rputL, ih]
theorem rput_con {ls : List Tt} {k n : Int} {s : ByteArray} {l : List Tt} (h : k ≠ 1) : rputT ls (.mk k n s l) = .mk k n s (l.map (rputT ls)) := by rw [rputT, if_neg h, rputL_map]
mutual
def renT (vs : List Int) : Tt → Tt
  | .mk k n s l => if k = 1 then .mk 1 (placeR vs n) ⟨#[]⟩ [] else .mk k n s (renL vs l)
def renL (vs : List Int) : List Tt → List Tt
  | [] => []
  | t :: r => renT vs t :: renL vs r
end
theorem renL_map (vs : List Int) (l : List Tt) : renL vs l = l.map (renT vs) := by
  induction l with
  | nil => rfl
  | cons t r ih => simp [renL, ih]
theorem ren_con {vs : List Int} {k n : Int} {s : ByteArray} {l : List Tt} (h : k ≠ 1) : renT vs (.mk k n s l) = .mk k n s (l.map (renT vs)) := by rw [renT, if_neg h, renL_map]
end Go.Proofs.Ytgdclchpccbifaa
