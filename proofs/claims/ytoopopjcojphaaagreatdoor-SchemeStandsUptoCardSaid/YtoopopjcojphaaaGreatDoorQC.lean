import Derived.Test.YtoopopjcojphaaaGreatDoorQB
import Derived.Test.YtoopopjcojphaaaGreatDoorQA
import Derived.Maps.OwnSet
import Derived.Maps.OwnOps
import Derived.Maps.Views
import Derived.Maps.AppendAt
import Derived.Laws.AppendOwnNone
import Derived.OwnWalk
/-
  ty.Of, ty.Fn.
-/
namespace Go.Proofs.YtoopopjcojphaaaGreatDoor
open Go.ChangeShapes Go.WideShapes Go.ChangeAt Go.RowKit
set_option linter.unusedVariables false
theorem Made.of {w : World} {B : Nat} {u : Tt} {k n : Int} {s : ByteArray} {l : List Tt} {e : Ending} {w' : World} (h : Made w B u e w') (hu : u = .mk k n s l) :
    ∃ A c, e = .returned (.agg #[.int .i64 k, .int .i64 n, .string s, .slice A l.length c]) ∧ TyR.rd w' (New B w') (.mk k n s l) [.int .i64 k, .int .i64 n, .string s, .slice A l.length c] ∧ Below w.heap.size w w' := by
  subst hu; exact h
theorem boxed_end {w wr : World} {u : Tt} {cs : List Value} {r : Array Value} {B b : Nat} (h : TyR.rd wr (New B wr) u cs) (hb : b < B) (hB : w.heap.size ≤ b) (hbw : Below w.heap.size w wr) : TyR.rd (wr.setRow b r) (New w.heap.size (wr.setRow b r)) u cs ∧ Below w.heap.size w (wr.setRow b r) :=
  ⟨TyR.more (S := New B wr) (fun x hx => ⟨by have := hx.1; omega, by rw [size_setRow]; exact hx.2⟩) (TyR.keep (fun x o hx => World.cell?_of_block (a := ⟨x, o, none⟩) (setRow_old (by have := hx.1; show x ≠ _; omega))) h),
   hbw.os, hbw.tape, hbw.output, by rw [size_setRow]; exact hbw.size, fun k hk => (setRow_old (by omega)).trans (hbw.block k hk)⟩
theorem itself_gives (w0 : World) : Gives w0 61 #[] id := by
  refine ⟨fun args w => by kernel_rfl, fun w t A c B hb hB hBw ht hr => ?_⟩
  obtain ⟨k, n, s, l⟩ := t
  have HR := Lib.hid hr
  clear hr hb hB ht
  show Calls Tryz.prog 61 #[.agg #[.int .i64 k, .int .i64 n, .string s, .slice A l.length c]] w (Made w B (.mk k n s l))
  go_enter Tryz.func61, Tryz.ntmps61
  go_wp2
  refine bodyPost_ret (v := .agg #[.int .i64 k, .int .i64 n, .string s, .slice A l.length c]) (results_cell_row rfl _ _ (w.heap.size + 1) 25 _ (0, 0) _ rfl (heap_alloc2_new _ _ _) Tryz.underlying25 rfl (tySizeA _ _ _ _)) rfl ?_
  have hb2 := (below_new w (.cells #[.int .i64 k, .int .i64 n, .string s, .slice A l.length c] 25)).alloc (by simp) (.cells #[.int .i64 k, .int .i64 n, .string s, .slice A l.length c] 25)
  exact ⟨A, c, rfl, TyR.more (fun b hb => ⟨hb.1, Nat.lt_of_lt_of_le hb.2 hb2.size⟩) (TyR.keep (Same.of_below hb2 fun b hb => hb.2) HR.out), hb2⟩
theorem of_any (s : ByteArray) (l : List Tt) (A : Option Addr) (c : Nat) (w : World) (S : Nat → Prop) (hS : ∀ b, S b → b < w.heap.size) (hs : s.size ≤ 1048576) (hl : l.length ≤ 1048576) (h : Rows TyR 4 w S A l) :
    Calls Tryz.prog 37 #[.string s, .slice A l.length c] w (Made w w.heap.size (.mk 2 0 s l)) := by
  have HC : Hid (Calls Tryz.prog 60 #[.agg #[.int .i64 2, .int .i64 0, .string s, .slice A l.length c], .func (.func 61) #[] #[]] (w.alloc (.cells #[.int .i64 0, .int .i64 0, .string ⟨#[]⟩, .slice none 0 0] 25)) (Made (w.alloc (.cells #[.int .i64 0, .int .i64 0, .string ⟨#[]⟩, .slice none 0 0] 25)) (w.heap.size + 1) (.mk 2 0 s l))) := Lib.hid (by
    obtain ⟨d, hd⟩ := TyR.mk (k := 2) (n := 0) (s := s) (c := c) (by omega) hl hs (h.keep (Same.of_below (below_new w (.cells #[.int .i64 0, .int .i64 0, .string ⟨#[]⟩, .slice none 0 0] 25)) hS))
    have := copied_any (itself_gives w) d 2 0 s l A c _ S (below_new w (.cells #[.int .i64 0, .int .i64 0, .string ⟨#[]⟩, .slice none 0 0] 25)) (fun b hb => by have := hS b hb; simp; omega) hd
    rw [cp_id, World.size_alloc] at this
    exact this)
  clear h hS
  go_enter Tryz.func37, Tryz.ntmps37
  go_wp2_with fail
  refine HC.out.mono ?_
  rintro e w1 ⟨A3, c3, rfl, h3, hb1⟩
  have HM := Lib.hid (And.intro h3 hb1)
  clear h3 hb1
  have hg : w1.heap[w.heap.size]? = some (.cells #[.int .i64 0, .int .i64 0, .string ⟨#[]⟩, .slice none 0 0] 25 (0, 0)) := (HM.out.2.block _ (by simp)).trans (heap_alloc_new _ _)
  have HG := Lib.hid hg
  clear hg
  go_wp2_with (refine wpList_store_row rfl 25 _ _ rfl w.heap.size _ rfl rfl 25 #[.int .i64 0, .int .i64 0, .string ⟨#[]⟩, .slice none 0 0] HG.out (tySizeA _ _ _ _) rfl (one4 _ _ _ _ _ _) ?_)
  refine bodyPost_ret (v := .agg #[.int .i64 2, .int .i64 0, .string s, .slice A3 l.length c3]) (results_cell_row rfl _ _ w.heap.size 25 _ (0, 0) _ rfl (setRow_row HG.out) Tryz.underlying25 rfl (tySizeA _ _ _ _)) rfl ?_
  obtain ⟨f1, f2⟩ := boxed_end (w := w) (r := #[.int .i64 2, .int .i64 0, .string s, .slice A3 l.length c3]) HM.out.1 (Nat.lt_succ_self _) (Nat.le_refl _) (below_then (below_new _ _) HM.out.2)
  exact ⟨A3, c3, rfl, f1, f2⟩
end Go.Proofs.YtoopopjcojphaaaGreatDoor
/-
  THE REFERENCE's Of, Fn.
-/
namespace Go.Proofs.YtoopopjcojphaaaGreatDoor
open Go.ChangeShapes Go.WideShapes Go.ChangeAt Go.RowKit
set_option linter.unusedVariables false
/-- A result cell, and a struct that begins to grow. -/
def W2 (w : World) (k' n' : Int) (s' : ByteArray) : World :=
  (w.alloc (.cells #[.int .i64 0, .int .i64 0, .string ⟨#[]⟩, .slice none 0 0] 25)).alloc (.cells #[.int .i64 k', .int .i64 n', .string s', .slice none 0 0] 25)
theorem W2.below (w : World) (k' n' : Int) (s' : ByteArray) : Below w.heap.size w (W2 w k' n' s') := (below_new w _).alloc (by simp) _
theorem W2.start (w : World) (k' n' : Int) (s' : ByteArray) : Grow (W2 w k' n' s') (w.heap.size + 2) (w.heap.size + 1) k' n' s' [] (.slice none 0 0) (W2 w k' n' s') :=
  ⟨heap_alloc2_new _ _ _, Own.nil _ _ _ _ _, by omega, by unfold W2; simp, Nat.le_refl _, rfl, rfl, rfl, fun _ _ _ => rfl⟩
section
variable {w wr : World} {k' n' : Int} {s' : ByteArray} {A' : Option Addr} {c' : Nat} {us : List Tt} {sv : Value}
theorem W2.res (h : Grow (W2 w k' n' s') (w.heap.size + 2) (w.heap.size + 1) k' n' s' us sv wr) : wr.heap[w.heap.size]? = some (.cells #[.int .i64 0, .int .i64 0, .string ⟨#[]⟩, .slice none 0 0] 25 (0, 0)) :=
  (h.block _ (by omega) (by omega)).trans (heap_alloc2_old _ _ _)
theorem W2.made (h : Grow (W2 w k' n' s') (w.heap.size + 2) (w.heap.size + 1) k' n' s' us (.slice A' us.length c') wr) (hn : -9223372036854775808 ≤ n' ∧ n' ≤ 9223372036854775807) (hl : us.length ≤ 1048576) (hs : s'.size ≤ 1048576) (r : Array Value) :
    TyR.rd (wr.setRow w.heap.size r) (New w.heap.size (wr.setRow w.heap.size r)) (.mk k' n' s' us) [.int .i64 k', .int .i64 n', .string s', .slice A' us.length c'] ∧ Below w.heap.size w (wr.setRow w.heap.size r) :=
  boxed_end (B := w.heap.size + 1) (TyR.more (S := New (w.heap.size + 2) wr) (fun b hb => ⟨by have := hb.1; omega, hb.2⟩) (TyR.mk hn hl hs h.own.rows)) (Nat.lt_succ_self _) (Nat.le_refl _) (h.below (by omega) (W2.below _ _ _ _))
end
end Go.Proofs.YtoopopjcojphaaaGreatDoor
/-
  PLAIN MATHEMATICS OF FORMED TYPES: a variable has nothing else; putting and numbering are what the reference says. Nothing of the program is named here.
-/
namespace Go.Proofs.YtoopopjcojphaaaGreatDoor
theorem good_var {t : Tt} (h : goodB t = true) (hk : t.kind = 1) : 0 ≤ t.num ∧ t.name = ⟨#[]⟩ ∧ t.args = [] := by
  unfold goodB at h
  rw [if_pos hk] at h
  simp only [Bool.and_eq_true, decide_eq_true_eq] at h
  exact ⟨h.1.1, h.1.2, List.eq_nil_of_length_eq_zero h.2⟩
theorem good_con {t : Tt} (h : goodB t = true) (hk : t.kind ≠ 1) : t.kind = 2 ∧ t.num = 0 := by
  unfold goodB at h
  rw [if_neg hk] at h
  by_cases hc : t.kind ≠ 2 ∨ t.num ≠ 0
  · rw [if_pos hc] at h; cases h
  · constructor
    · exact Decidable.of_not_not fun e => hc (.inl e)
    · exact Decidable.of_not_not fun e => hc (.inr e)
theorem formed_node {k n : Int} {s : ByteArray} {l : List Tt} (h : formedT (.mk k n s l) = true) : goodB (.mk k n s l) = true ∧ ∀ t ∈ l, formedT t = true := by
  unfold formedT at h
  simp only [pre, List.all_cons, Bool.and_eq_true] at h
  refine ⟨h.1, fun t ht => ?_⟩
  unfold formedT
  rw [List.all_eq_true]
  intro u hu
  exact List.all_eq_true.1 h.2 u (mem_preL ht hu)
/-- A formed type is a variable, or a constructor. -/
theorem formed_var {n k : Int} {s : ByteArray} {l : List Tt} (h : formedT (.mk k n s l) = true) (hk : k = 1) : 0 ≤ n ∧ s = ⟨#[]⟩ ∧ l = [] := good_var (formed_node h).1 hk
def putG (ls : List Tt) (t : Tt) : Tt := if h : 0 ≤ t.num ∧ t.num < ls.length then ls[t.num.toNat]'(by omega) else t
def putT (ls : List Tt) (t : Tt) : Tt := cp (putG ls) t
def place0 (vs : List Int) (x : Int) : Int := if x ∈ vs then vs.idxOf x else 0
def numG (vs : List Int) (t : Tt) : Tt := .mk t.kind (place0 vs t.num) t.name t.args
def canonT (t : Tt) : Tt := cp (numG (varsT t)) t
mutual
theorem put_eq (ls : List Tt) : ∀ t : Tt, formedT t = true → putT ls t = rputT ls t
  | .mk k n s l, h => by
    by_cases hk : k = 1
    · obtain ⟨_, _, rfl⟩ := formed_var h hk
      unfold putT
      rw [cp_var hk, rputT, if_pos hk]; rfl
    · have := put_eqL ls l fun t ht => (formed_node h).2 t ht
      unfold putT
      rw [cp_con hk, rput_con hk, this]
theorem put_eqL (ls : List Tt) : ∀ l : List Tt, (∀ t ∈ l, formedT t = true) → l.map (cp (putG ls)) = l.map (rputT ls)
  | [], _ => rfl
  | t :: r, h => by
    have h1 := put_eq ls t (h t (List.mem_cons_self ..))
    have h2 := put_eqL ls r fun u hu => h u (List.mem_cons_of_mem _ hu)
    simp only [List.map_cons, h2]
    unfold putT at h1
    rw [h1]
end
/-! ### Variables -/
theorem vstep_sub (vs : List Int) (t : Tt) : ∀ x ∈ vs, x ∈ (vstep vs t).1 := by
  intro x hx; unfold vstep; simp only; split
  · exact List.mem_append_left _ hx
  · exact hx
theorem vscan_sub : ∀ (P : List Tt) (vs : List Int), ∀ x ∈ vs, x ∈ (scan vstep vs P).1
  | [], _, _, h => h
  | a :: r, vs, x, h => by rw [scan_yes vstep rfl]; exact vscan_sub r _ x (vstep_sub vs a x h)
theorem vscan_mem : ∀ (P : List Tt) (vs : List Int) (u : Tt), u ∈ P → u.kind = 1 → u.num ∈ (scan vstep vs P).1
  | [], _, _, h, _ => by cases h
  | a :: r, vs, u, h, hk => by
    rw [scan_yes vstep rfl]
    rcases List.mem_cons.1 h with rfl | h
    · refine vscan_sub r _ _ ?_
      unfold vstep; simp only
      by_cases hm : u.num ∈ vs
      · rw [if_neg (fun h => h.2 hm)]; exact hm
      · rw [if_pos ⟨hk, hm⟩]; simp
    · exact vscan_mem r _ u h hk
theorem vars_mem {t u : Tt} (h : u ∈ pre t) (hk : u.kind = 1) : u.num ∈ varsT t := vscan_mem _ _ u h hk
theorem place_eq {vs : List Int} {n : Int} (h : n ∈ vs) : placeR vs n = place0 vs n := by unfold placeR place0; rw [if_pos h, if_pos h]
mutual
theorem ren_eq (vs : List Int) : ∀ t : Tt, formedT t = true → (∀ u ∈ pre t, u.kind = 1 → u.num ∈ vs) → cp (numG vs) t = renT vs t
  | .mk k n s l, h, hv => by
    by_cases hk : k = 1
    · obtain ⟨_, rfl, rfl⟩ := formed_var h hk
      rw [cp_var hk, renT, if_pos hk]
      have hm : n ∈ vs := hv (.mk k n ⟨#[]⟩ []) (by simp [pre]) hk
      show Tt.mk k (place0 vs n) ⟨#[]⟩ [] = _
      rw [← place_eq hm, hk]
    · have := ren_eqL vs l (fun t ht => (formed_node h).2 t ht) fun t ht u hu => hv u (by simp only [pre]; exact List.mem_cons_of_mem _ (mem_preL ht hu))
      rw [cp_con hk, ren_con hk, this]
theorem ren_eqL (vs : List Int) : ∀ l : List Tt, (∀ t ∈ l, formedT t = true) → (∀ t ∈ l, ∀ u ∈ pre t, u.kind = 1 → u.num ∈ vs) → l.map (cp (numG vs)) = l.map (renT vs)
  | [], _, _ => rfl
  | t :: r, h, hv => by
    have h1 := ren_eq vs t (h t (List.mem_cons_self ..)) (hv t (List.mem_cons_self ..))
    have h2 := ren_eqL vs r (fun u hu => h u (List.mem_cons_of_mem _ hu)) fun u hu => hv u (List.mem_cons_of_mem _ hu)
    simp only [List.map_cons, h1, h2]
end
theorem canon_eq {t : Tt} (h : formedT t = true) : canonT t = renT (varsT t) t := ren_eq _ t h fun _ hu hk => vars_mem hu hk
/-! ### Put twice -/
theorem putG_nil : putG [] = id := by funext t; unfold putG; rw [dif_neg (by simp)]; rfl
theorem put_nil (t : Tt) : putT [] t = t := by unfold putT; rw [putG_nil, cp_id]
/-- Each of the first variables itself. -/
def ownL (m : Nat) : List Tt := (List.range m).map fun (i : Nat) => Tt.mk 1 (i : Int) ⟨#[]⟩ []
theorem ownL_snoc (m : Nat) : ownL (m + 1) = ownL m ++ [.mk 1 m ⟨#[]⟩ []] := by unfold ownL; rw [List.range_succ, List.map_append]; rfl
theorem ownL_len (m : Nat) : (ownL m).length = m := by simp [ownL]
mutual
theorem put_own (m : Nat) : ∀ t : Tt, formedT t = true → putT (ownL m) t = t
  | .mk k n s l, h => by
    by_cases hk : k = 1
    · obtain ⟨h0, rfl, rfl⟩ := formed_var h hk
      subst hk
      unfold putT
      rw [cp_var rfl]
      unfold putG
      split
      · rename_i hc
        simp only [Tt.num, ownL, List.getElem_map, List.getElem_range]
        rw [show ((n.toNat : Nat) : Int) = n by simp only [Tt.num] at hc; omega]
      · rfl
    · have := put_ownL m l fun t ht => (formed_node h).2 t ht
      unfold putT
      rw [cp_con hk, this]
theorem put_ownL (m : Nat) : ∀ l : List Tt, (∀ t ∈ l, formedT t = true) → l.map (cp (putG (ownL m))) = l
  | [], _ => rfl
  | t :: r, h => by
    have h1 := put_own m t (h t (List.mem_cons_self ..))
    have h2 := put_ownL m r fun u hu => h u (List.mem_cons_of_mem _ hu)
    unfold putT at h1
    simp only [List.map_cons, h2, h1]
end
mutual
theorem put_both (ls ks : List Tt) : ∀ t : Tt, formedT t = true → (∀ u ∈ pre t, u.kind = 1 → u.num < ls.length) → putT ks (putT ls t) = putT (ls.map (putT ks)) t
  | .mk k n s l, h, hv => by
    by_cases hk : k = 1
    · obtain ⟨h0, rfl, rfl⟩ := formed_var h hk
      subst hk
      have hn : n < ls.length := hv (.mk 1 n ⟨#[]⟩ []) (by simp [pre]) rfl
      have e1 : putT ls (.mk 1 n ⟨#[]⟩ []) = ls[n.toNat]'(by omega) := by
        unfold putT; rw [cp_var rfl]; unfold putG; rw [dif_pos (by simp only [Tt.num]; omega)]; rfl
      have e2 : putT (ls.map (putT ks)) (.mk 1 n ⟨#[]⟩ []) = (ls.map (putT ks))[n.toNat]'(by simp; omega) := by
        unfold putT; rw [cp_var rfl]; unfold putG; rw [dif_pos (by simp only [Tt.num, List.length_map]; omega)]; rfl
      rw [e1, e2, List.getElem_map]
    · have := put_bothL ls ks l (fun t ht => (formed_node h).2 t ht) fun t ht u hu => hv u (by simp only [pre]; exact List.mem_cons_of_mem _ (mem_preL ht hu))
      have e1 : putT ls (.mk k n s l) = .mk k n s (l.map (putT ls)) := cp_con hk
      have e2 : putT ks (.mk k n s (l.map (putT ls))) = .mk k n s ((l.map (putT ls)).map (putT ks)) := cp_con hk
      have e3 : putT (ls.map (putT ks)) (.mk k n s l) = .mk k n s (l.map (putT (ls.map (putT ks)))) := cp_con hk
      rw [e1, e2, e3, this]
theorem put_bothL (ls ks : List Tt) : ∀ l : List Tt, (∀ t ∈ l, formedT t = true) → (∀ t ∈ l, ∀ u ∈ pre t, u.kind = 1 → u.num < ls.length) → (l.map (putT ls)).map (putT ks) = l.map (putT (ls.map (putT ks)))
  | [], _, _ => rfl
  | t :: r, h, hv => by
    have h1 := put_both ls ks t (h t (List.mem_cons_self ..)) (hv t (List.mem_cons_self ..))
    have h2 := put_bothL ls ks r (fun u hu => h u (List.mem_cons_of_mem _ hu)) fun u hu => hv u (List.mem_cons_of_mem _ hu)
    simp only [List.map_cons, h1, h2]
end
theorem put_both_vars {ls ks : List Tt} {t : Tt} (h : formedT t = true) (hv : ∀ x ∈ varsT t, x < ls.length) : putT ks (putT ls t) = putT (ls.map (putT ks)) t := put_both ls ks t h fun _ hu hk => hv _ (vars_mem hu hk)
end Go.Proofs.YtoopopjcojphaaaGreatDoor
/-
  A MAP OF NUMBERS TO THEIR PLACES IN A LIST, made by the call. Nothing of the program is named here.
-/
namespace Go.Proofs.YtoopopjcojphaaaGreatDoor
open Go.ChangeShapes Go.WideShapes Go.ChangeAt Go.RowKit
theorem wf64 {x : Int} (h : -9223372036854775808 ≤ x ∧ x ≤ 9223372036854775807) : (Lit.int .i64 x).wf = true := by
  simp [Lit.wf]
  exact ⟨Int.le_trans (by decide) h.1, h.2⟩
/-- Block b is a map of the numbers of vs to their places there, of at most n entries. -/
def NumMap (P : Program) (k e : TypeId) (w : World) (b n : Nat) (vs : List Int) : Prop :=
  ∃ D : DataW Unit, w.ownsMap P k (plainElem P e) b n D ∧ Maps.IsMap D ∧ ∀ x : Int, Maps.has D (.int .i64 x) = decide (x ∈ vs) ∧ (x ∈ vs → ∀ z, D.atKey (.int .i64 x) z = .lit (.int .i64 (vs.idxOf x)))
section
variable {P : Program} {k e t : TypeId} {w w' : World} {b n : Nat} {vs : List Int}
theorem NumMap.made (P : Program) (k e : TypeId) (w : World) : NumMap P k e (w.alloc (.map #[] 0)) w.heap.size 0 [] :=
  ⟨.map [], World.ownsMap_made _ _ _ _, Maps.isMap_empty, fun x => ⟨by simp [Maps.has], fun h => by cases h⟩⟩
theorem NumMap.kept {row : Option Nat} (h : NumMap P k e w b n vs) (hg : w.grownBy w' row) (hne : some b ≠ row) : NumMap P k e w' b n vs := by
  obtain ⟨D, h1, h2⟩ := h
  exact ⟨D, h1.kept hg hne, h2⟩
theorem NumMap.lt (h : NumMap P k e w b n vs) : b < w.heap.size := h.elim fun _ h => h.1.lt
theorem NumMap.block (h : NumMap P k e w b n vs) (hb : w'.heap[b]? = w.heap[b]?) : NumMap P k e w' b n vs := by
  obtain ⟨D, ⟨es, clock, h1, h3⟩, h2⟩ := h
  exact ⟨D, ⟨es, clock, hb.trans h1, h3⟩, h2⟩
theorem NumMap.look_ok (h : NumMap P k e w b n vs) (hk : P.underlying k = some (.int .i64)) (he : P.underlying e = some (.int .i64)) (ht : P.underlying t = some (.map k e)) (hz : (zeroValue e).run P w = .ok (.int .i64 0) w)
    {x : Int} (hx : -9223372036854775808 ≤ x ∧ x ≤ 9223372036854775807) : (Instr.lookup t (.map (some b)) (.int .i64 x) true).run P w = .ok (.tuple #[.int .i64 (place0 vs x), .bool (decide (x ∈ vs))]) w := by
  obtain ⟨D, h1, h2, h3⟩ := h
  obtain ⟨v, ps, hrun, hv⟩ := h1.look_ok (Maps.int_keyed hk) ht hz (plainElem_int (H := Unit) he (wf64 (by omega))) (Maps.keyOf_int_mk hk (wf64 hx))
  rw [(h3 x).1] at hrun
  unfold place0
  by_cases hm : x ∈ vs
  · rw [(h3 x).2 hm] at hv
    obtain ⟨c, rfl, hc, _⟩ := plainElem_int_inv he hv
    have := congrArg Prod.fst hc
    simp only [DataW.lit.injEq, Lit.int.injEq, true_and] at this
    rw [if_pos hm, hrun, this]
  · rw [Maps.atKey_of_not_has (by rw [(h3 x).1]; simpa using hm)] at hv
    obtain ⟨c, rfl, hc, _⟩ := plainElem_int_inv he hv
    have := congrArg Prod.fst hc
    simp only [DataW.lit.injEq, Lit.int.injEq, true_and] at this
    rw [if_neg hm, hrun, ← this]
theorem NumMap.look (h : NumMap P k e w b n vs) (hk : P.underlying k = some (.int .i64)) (he : P.underlying e = some (.int .i64)) (ht : P.underlying t = some (.map k e)) (hz : (zeroValue e).run P w = .ok (.int .i64 0) w)
    {x : Int} (hx : -9223372036854775808 ≤ x ∧ x ≤ 9223372036854775807) : (Instr.lookup t (.map (some b)) (.int .i64 x) false).run P w = .ok (.int .i64 (place0 vs x)) w := by
  obtain ⟨D, h1, h2, h3⟩ := h
  obtain ⟨c, hrun, hc, _⟩ := h1.lookup_int (Maps.int_keyed hk) ht he hz (Maps.keyOf_int_mk hk (wf64 hx))
  unfold place0
  by_cases hm : x ∈ vs
  · rw [(h3 x).2 hm] at hc
    simp only [DataW.lit.injEq, Lit.int.injEq, true_and] at hc
    rw [if_pos hm, hrun, hc]
  · rw [Maps.atKey_of_not_has (by rw [(h3 x).1]; simpa using hm)] at hc
    simp only [DataW.lit.injEq, Lit.int.injEq, true_and] at hc
    rw [if_neg hm, hrun, ← hc]
theorem int_ne_key {x y : Int} (h : x ≠ y) : (Lit.int .i64 x) ≠ (Lit.int .i64 y) := fun e => h (by injection e)
/-- One number more. -/
theorem NumMap.next {D : DataW Unit} {x : Int} (h2 : Maps.IsMap D) (h3 : ∀ x : Int, Maps.has D (.int .i64 x) = decide (x ∈ vs) ∧ (x ∈ vs → ∀ z, D.atKey (.int .i64 x) z = .lit (.int .i64 (vs.idxOf x)))) (hx : x ∉ vs)
    (h : w'.ownsMap P k (plainElem P e) b (n + 1) (D.put (.int .i64 x) (.lit (.int .i64 vs.length)))) : NumMap P k e w' b (n + 1) (vs ++ [x]) := by
  refine ⟨_, h, h2.put _ _, fun y => ?_⟩
  by_cases hy : y = x
  · subst hy
    refine ⟨by rw [Maps.has_put_same h2 (show WideAt.IsKeyLit (.int .i64 y) from trivial)]; simp, fun _ z => ?_⟩
    rw [Maps.atKey_put_same h2 (show WideAt.IsKeyLit (.int .i64 y) from trivial), List.idxOf_append, if_neg hx]; simp
  · refine ⟨?_, fun hm z => ?_⟩
    · rw [Maps.has_put_other (int_ne_key hy), (h3 y).1]; simp [hy]
    · have hm' : y ∈ vs := by simpa [hy] using hm
      rw [Maps.atKey_put_other (int_ne_key hy), (h3 y).2 hm', List.idxOf_append, if_pos hm']
end
end Go.Proofs.YtoopopjcojphaaaGreatDoor
/-
  append OF A SLICE OF INTEGERS (nil, empty or not) ONTO A ROW OF THE CALL's OWN. Nothing of the program is named here.
-/
namespace Go.Proofs.YtoopopjcojphaaaGreatDoor
open Go.ChangeShapes Go.WideShapes Go.ChangeAt Go.RowKit
def cells (xs : List Int) : List Value := xs.map (Value.int .i64)
theorem cells_length (xs : List Int) : (cells xs).length = xs.length := by simp [cells]
theorem cells_app (xs ys : List Int) : cells (xs ++ ys) = cells xs ++ cells ys := by simp [cells]
section
variable {P : Program} {w : World} {B base : Nat} {A : Option Addr} {xs : List Int}
theorem IntsAt.news {ad : Addr} (h : IntsAt w B (some ad) xs) : ∀ j u, (cells xs)[j]? = some u → w.cell? (ad.add j) = some u := fun j u hu => by
  simp only [cells, List.getElem?_map, Option.map_eq_some_iff] at hu
  obtain ⟨x, hx, rfl⟩ := hu
  obtain ⟨ad', e, _, hc⟩ := h j x hx
  cases e; exact hc
theorem ints_own {e : TypeId} {A : Option Addr} {n c : Nat} (h : w.ownsRow base e 1 (.slice A n c) n (cells xs)) : n = xs.length ∧ IntsAt w w.heap.size A xs ∧ n ≤ c ∧ c ≤ maxLen := by
  have hl : n = xs.length := by have := h.1; rw [cells_length] at this; omega
  refine ⟨hl, fun k x hx => ?_, ?_⟩
  · rcases h.2 with ⟨hv, h0⟩ | ⟨g, cap, cur, hv, _, hh, _⟩
    · have := (List.getElem?_eq_some_iff.1 hx).1; omega
    · injection hv with hA
      subst hA
      have hlt : g < w.heap.size := by
        rcases Nat.lt_or_ge g w.heap.size with h' | h'
        · exact h'
        · rw [Array.getElem?_eq_none h'] at hh; cases hh
      exact ⟨_, rfl, hlt, h.cells (g := g) rfl k _ (by simp [cells, hx])⟩
  · rcases h.2 with ⟨hv, h0⟩ | ⟨g, cap, cur, hv, _, _, hnc, hcm, _⟩
    · injection hv with _ _ hc
      subst hc
      exact ⟨by omega, Nat.zero_le _⟩
    · injection hv with _ _ hc
      subst hc
      exact ⟨hnc, hcm⟩
theorem own_form {e : TypeId} {v : Value} {n : Nat} {cs : List Value} (h : w.ownsRow base e 1 v n cs) : ∃ A c, v = .slice A n c := by
  rcases h.2 with ⟨hv, h0⟩ | ⟨g, cap, cur, hv, _⟩
  · exact ⟨_, _, by rw [hv, h0]⟩
  · exact ⟨_, _, hv⟩
theorem wpList_append_ints {ops : Array Oper} {rest : List Oper} {o : Oper} {a : Act} {Q : Exit → Act → World → Prop} (hgd : o.guard = none) (s x : Operand) (t : TypeId)
    (ho : o.op = .call { callee := .builtin .append, args := #[s, x], argTypes := #[t, t] })
    (base : Nat) (e : TypeId) (i : TypeInfo) (z : Value) (ht : P.underlying t = some (.slice e)) (hi : P.info? e = some i) (hz : i.zero = some z)
    (hsize : i.size = 1) (hby : i.bytes = 8) (hzs : z.cells.size = 1)
    (v : Value) (n : Nat) (cs : List Value) (hs : a.eval s = v) (hown : w.ownsRow base e 1 v n cs)
    (A : Option Addr) (xs : List Int) (c : Nat) (hx : a.eval x = .slice A xs.length c) (hn : A = none → c = 0) (hI : IntsAt w B A xs)
    (h63 : n + xs.length ≤ 65536) (hbase : base ≤ w.heap.size)
    (h : ∀ v' w', w'.ownsRow base e 1 v' (n + xs.length) (cs ++ cells xs) → w.grownBy w' v.ownBlock → (v'.ownBlock = v.ownBlock ∨ v'.ownBlock = some w.heap.size) → wpList P ops Q rest (a.put o.dst v') w') :
    wpList P ops Q (o :: rest) a w := by
  cases A with
  | none =>
    have hxs : xs = [] := by
      cases xs with
      | nil => rfl
      | cons y ys => obtain ⟨_, e, _⟩ := hI 0 y rfl; cases e
    subst hxs
    refine wpList_append_own_none hgd s x t ho base e i 1 ht hi v n cs hs hown (by rw [hx, hn rfl]; rfl) ?_
    have := h v w (by simpa [cells] using hown) (World.grownBy.refl w _) (.inl rfl)
    exact this
  | some ad =>
    refine wpList_append_own_at (P := P) w hgd s x t ho base e i z 1 8 ht hi hz hsize hby hzs (by omega) v n cs hs hown ad xs.length c (cells xs) hx (by rw [cells_length]; omega) hI.news (by intro u hu; simp [cells] at hu; obtain ⟨y, _, rfl⟩ := hu; rfl)
      (by unfold maxLen; omega) (by omega) hbase fun v' w' h1 h2 _ h4 => h v' w' h1 h2 h4
end
end Go.Proofs.YtoopopjcojphaaaGreatDoor
/-
  ty.renumbered.
-/
namespace Go.Proofs.YtoopopjcojphaaaGreatDoor
open Go.ChangeShapes Go.WideShapes Go.ChangeAt Go.RowKit
set_option linter.unusedVariables false
theorem zeroI (w : World) : (zeroValue 3).run Tryz.prog w = .ok (.int .i64 0) w := by kernel_rfl
theorem intInfo : (Tryz.prog.info? 3).map (fun i => (i.zero, i.size, i.bytes)) = some (some (.int .i64 0), 1, 8) := by kernel_rfl
/-- What the closure keeps: the map (block M), the cell of the map (M + 1), that of the list (M + 2); w0 is the world before. -/
structure NumAt (w0 : World) (vs : List Int) (w : World) : Prop where
  below : Below w0.heap.size w0 w
  map : NumMap Tryz.prog 3 3 w w0.heap.size vs.length vs
  mcell : w.heap[w0.heap.size + 1]? = some (.cells #[.map (some w0.heap.size)] 71 (0, 0))
  row : ∃ sv, w.heap[w0.heap.size + 2]? = some (.cells #[sv] 26 (0, 0)) ∧ w.ownsRow (w0.heap.size + 3) 3 1 sv vs.length (cells vs)
  few : vs.length ≤ 1048576
theorem NumAt.size {w0 w : World} {vs : List Int} (h : NumAt w0 vs w) : w0.heap.size + 3 ≤ w.heap.size := by
  obtain ⟨sv, h1, _⟩ := h.row
  have := (Array.getElem?_eq_some_iff.1 h1).1; omega
theorem cell_one {w : World} {b : Nat} {v : Value} {t : TypeId} {fr : Nat × Nat} (h : w.heap[b]? = some (.cells #[v] t fr)) : w.cell? ⟨b, 0, none⟩ = some v := by rw [cell_of_row w b 0 _ _ _ h]; rfl
theorem NumAt.drew {w0 w : World} {vs : List Int} (h : NumAt w0 vs w) : NumAt w0 vs w.drew := ⟨below_drew1 h.below, h.map, h.mcell, h.row, h.few⟩
theorem num_apart {w : World} {base n b : Nat} {e : TypeId} {v : Value} {xs : List Value} (h : w.ownsRow base e 1 v n xs) (hb : b < base) : v.ownBlock = none ∨ v.ownBlock ≠ some b := by
  refine .inr fun e => ?_
  have := (h.lt _ e).1; omega
theorem num_next {w0 w w1 wa w2 : World} {vs : List Int} {x : Int} {sv v' : Value} (h : NumAt w0 vs w) (hm : NumMap Tryz.prog 3 3 w1 w0.heap.size (vs.length + 1) (vs ++ [x])) (hg1 : w.drew.drew.grownBy w1 (some w0.heap.size)) (hba : Below w1.heap.size w1 wa)
    (hro : wa.ownsRow (w0.heap.size + 3) 3 1 sv vs.length (cells vs)) (hown : w2.ownsRow (w0.heap.size + 3) 3 1 v' (vs.length + 1) (cells vs ++ [.int .i64 x])) (hg : wa.grownBy w2 sv.ownBlock)
    (hb : ∀ k, k < w0.heap.size + 3 → k ≠ w0.heap.size → w2.heap[k]? = w.heap[k]?) (hbm : w2.heap[w0.heap.size]? = w1.heap[w0.heap.size]?) (hs : w2.heap[w0.heap.size + 2]? = some (.cells #[sv] 26 (0, 0))) (hfew : vs.length + 1 ≤ 1048576) :
    NumAt w0 (vs ++ [x]) (w2.setCell ⟨w0.heap.size + 2, 0, none⟩ v') := by
  have hz := h.size
  have hsz : (w2.setCell ⟨w0.heap.size + 2, 0, none⟩ v').heap.size = w2.heap.size := by simp
  have hz1 : w.heap.size ≤ w1.heap.size := hg1.size
  have hz2 := hba.size
  have hz3 := hg.size
  refine ⟨⟨?_, ?_, ?_, by have := h.below.size; omega, fun k hk => ?_⟩, ?_, ?_, ⟨v', ?_, ?_⟩, by simpa using hfew⟩
  · exact hg.os.trans (hba.os.trans (hg1.os.trans h.below.os))
  · exact hg.tape.trans (hba.tape.trans (hg1.tape.trans h.below.tape))
  · exact hg.output.trans (hba.output.trans (hg1.output.trans h.below.output))
  · rw [heap_setCell_other w2 _ _ _ (by simp; omega), hb k (by omega) (by omega)]; exact h.below.block k hk
  · rw [List.length_append]
    exact hm.block ((heap_setCell_other w2 _ _ _ (by simp)).trans hbm)
  · rw [heap_setCell_other w2 _ _ _ (by simp), hb _ (by omega) (by omega)]; exact h.mcell
  · rw [heap_setCell_same w2 _ 0 _ _ _ hs]; rfl
  · rw [List.length_append, cells_app]
    refine (hown.kept (row := some (w0.heap.size + 2)) ⟨rfl, rfl, rfl, by omega, fun k _ hne => heap_setCell_other w2 _ _ _ (by simpa using hne)⟩ (num_apart hown (by omega)))
set_option maxHeartbeats 1000000 in
theorem renum1_any (w0 w : World) (vs : List Int) (S : Nat → Prop) (hS : ∀ b, S b → b < w0.heap.size) (hI : NumAt w0 vs w) (hfew : vs.length + 1 ≤ 1048576) (d : Nat) (t : Tt) (b o : Nat) (hP : TyP w S d t b o) :
    Calls Tryz.prog 71 #[.pointer (some ⟨b, o, none⟩), .pointer (some ⟨w0.heap.size + 1, 0, none⟩), .pointer (some ⟨w0.heap.size + 2, 0, none⟩)] w fun e w' => e = .returned (.bool (vstep vs t).2) ∧ NumAt w0 (vstep vs t).1 w' := by
  obtain ⟨A, c, d', rfl, hN, hn, hlen, hnm, hSb, _⟩ := hP.node
  have hbl := hS b hSb
  have HN := Lib.hid hN
  have HI := Lib.hid hI
  have HV : Hid ((vstep vs t).1 = (if t.kind = 1 ∧ t.num ∉ vs then vs ++ [t.num] else vs)) := Lib.hid rfl
  have q0 := hN.1
  clear hN hI hP
  by_cases hk : t.kind = 1
  case neg =>
    have e1 : (t.kind == 1) = false := by simpa using hk
    have HK := Lib.hid hk
    clear hk
    go_enter Tryz.func71, Tryz.ntmps71
    go_wp2
    go_ret
    refine ⟨rfl, ?_⟩
    rw [HV.out, if_neg (fun h => HK.out h.1)]
    exact HI.out
  have e1 : (t.kind == 1) = true := by simpa using hk
  have HK := Lib.hid hk
  clear hk
  have HL : Hid (∀ W', NumAt w0 vs W' → (Instr.lookup 71 (.map (some w0.heap.size)) (.int .i64 t.num) true).run Tryz.prog W' = .ok (.tuple #[.int .i64 (place0 vs t.num), .bool (decide (t.num ∈ vs))]) W') := Lib.hid fun W' h => h.map.look_ok Tryz.underlying3 Tryz.underlying3 Tryz.underlying71 (zeroI _) hn
  have HC : Hid (∀ W', NumAt w0 vs W' ∧ Same S w W' → W'.cell? ⟨b, o + 1, none⟩ = some (.int .i64 t.num)) := Lib.hid fun W' h => (HN.out.keep h.2 hSb).2.1
  have HM : Hid (∀ W', NumAt w0 vs W' → W'.cell? ⟨w0.heap.size + 1, 0, none⟩ = some (.map (some w0.heap.size))) := Lib.hid fun W' h => cell_one h.mcell
  by_cases hm : t.num ∈ vs
  · have HMM := Lib.hid hm
    rw [decide_eq_true hm] at HL
    clear hm
    go_enter Tryz.func71, Tryz.ntmps71
    go_wp2
    refine wp_region_K (fun w' => NumAt w0 vs w' ∧ Same S w w') (fun j => true) (by kernel_rfl) ?_
    refine wpK_take (v := ?_) (a' := ?_) 0 rfl (by kernel_rfl) (by kernel_rfl) (by kernel_rfl) (by kernel_rfl) (by kernel_rfl) (fun _ _ _ h => h) (⟨HI.out.drew, Same.refl _ _⟩) ?_ ?_ ?_
    rotate_left 2
    · refine .inl ⟨by kernel_rfl, ?_⟩; intro wS hS; have q1 := HC.out _ hS; have q2 := HM.out _ hS.1; have q3 := HL.out _ hS.1; go_simp; with_reducible rfl
    · go_simp; with_reducible rfl
    refine wpK_take0 (v := ?_) (a' := ?_) 1 rfl (by kernel_rfl) (by kernel_rfl) (by kernel_rfl) (by kernel_rfl) (fun _ _ _ h => h) ?_ ?_ ?_
    rotate_left 2
    · refine .inl ⟨by kernel_rfl, ?_⟩; intro wS hS; clear hS; go_simp; with_reducible rfl
    · go_simp; with_reducible rfl
    refine wpK_take0 (v := ?_) (a' := ?_) 2 rfl (by kernel_rfl) (by kernel_rfl) (by kernel_rfl) (by kernel_rfl) (fun _ _ _ h => h) ?_ ?_ ?_
    rotate_left 2
    · refine .inl ⟨by kernel_rfl, ?_⟩; intro wS hS; clear hS; go_simp; with_reducible rfl
    · go_simp; with_reducible rfl
    refine wpK_take0 (v := ?_) (a' := ?_) 3 rfl (by kernel_rfl) (by kernel_rfl) (by kernel_rfl) (by kernel_rfl) (fun _ _ _ h => h) ?_ ?_ ?_
    rotate_left 2
    · refine .inl ⟨by kernel_rfl, ?_⟩; intro wS hS; clear hS; go_simp; with_reducible rfl
    · go_simp; with_reducible rfl
    refine wpK_take (v := ?_) (a' := ?_) 4 rfl (by kernel_rfl) (by kernel_rfl) (by kernel_rfl) (by kernel_rfl) (by kernel_rfl) (fun _ _ _ h => h) (⟨HI.out.drew, Same.refl _ _⟩) ?_ ?_ ?_
    rotate_left 2
    · refine .inl ⟨by kernel_rfl, ?_⟩; intro wS hS; have q1 := HC.out _ hS; have q2 := HM.out _ hS.1; have q3 := HL.out _ hS.1; go_simp; with_reducible rfl
    · go_simp; with_reducible rfl
    refine wpK_take (v := ?_) (a' := ?_) 5 rfl (by kernel_rfl) (by kernel_rfl) (by kernel_rfl) (by kernel_rfl) (by kernel_rfl) (fun _ _ _ h => h) (⟨HI.out.drew, Same.refl _ _⟩) ?_ ?_ ?_
    rotate_left 2
    · refine .inl ⟨by kernel_rfl, ?_⟩; intro wS hS; have q1 := HC.out _ hS; have q2 := HM.out _ hS.1; have q3 := HL.out _ hS.1; go_simp; with_reducible rfl
    · go_simp; with_reducible rfl
    refine wpK_take0 (v := ?_) (a' := ?_) 6 rfl (by kernel_rfl) (by kernel_rfl) (by kernel_rfl) (by kernel_rfl) (fun _ _ _ h => h) ?_ ?_ ?_
    rotate_left 2
    · refine .inl ⟨by kernel_rfl, ?_⟩; intro wS hS; clear hS; go_simp; with_reducible rfl
    · go_simp; with_reducible rfl
    refine wpK_take0 (v := ?_) (a' := ?_) 7 rfl (by kernel_rfl) (by kernel_rfl) (by kernel_rfl) (by kernel_rfl) (fun _ _ _ h => h) ?_ ?_ ?_
    rotate_left 2
    · refine .inl ⟨by kernel_rfl, ?_⟩; intro wS hS; clear hS; go_simp; with_reducible rfl
    · go_simp; with_reducible rfl
    refine wpK_take0 (v := ?_) (a' := ?_) 8 rfl (by kernel_rfl) (by kernel_rfl) (by kernel_rfl) (by kernel_rfl) (fun _ _ _ h => h) ?_ ?_ ?_
    rotate_left 2
    · refine .inl ⟨by kernel_rfl, ?_⟩; intro wS hS; clear hS; go_simp; with_reducible rfl
    · go_simp; with_reducible rfl
    refine wpK_take0 (v := ?_) (a' := ?_) 9 rfl (by kernel_rfl) (by kernel_rfl) (by kernel_rfl) (by kernel_rfl) (fun _ _ _ h => h) ?_ ?_ ?_
    rotate_left 2
    · refine .inl ⟨by kernel_rfl, ?_⟩; intro wS hS; clear hS; go_simp; with_reducible rfl
    · go_simp; with_reducible rfl
    refine wpK_take0 (v := ?_) (a' := ?_) 10 rfl (by kernel_rfl) (by kernel_rfl) (by kernel_rfl) (by kernel_rfl) (fun _ _ _ h => h) ?_ ?_ ?_
    rotate_left 2
    · refine .inl ⟨by kernel_rfl, ?_⟩; intro wS hS; clear hS; go_simp; with_reducible rfl
    · go_simp; with_reducible rfl
    refine wpK_end (by kernel_rfl) ?_ _
    go_wp2
    go_ret
    refine ⟨rfl, ?_⟩
    rw [HV.out, if_neg (fun h => h.2 HMM.out)]
    exact HI.out.drew
  · have HMM := Lib.hid hm
    rw [decide_eq_false hm] at HL
    clear hm
    obtain ⟨sv, hsv, hrow⟩ := HI.out.row
    obtain ⟨A5, c5, hsv5⟩ := own_form hrow
    subst hsv5
    obtain ⟨D, hD1, hD2, hD3⟩ := HI.out.map
    have hzz := HI.out.size
    have hvl : vs.length ≤ 1048576 := HI.out.few
    have HROW := Lib.hid (And.intro hsv hrow)
    have HD := Lib.hid (And.intro hD1 (And.intro hD2 hD3))
    clear hsv hrow hD1 hD2 hD3
    have HC2 : Hid (∀ W', NumAt w0 vs W' ∧ Same S w W' ∧ (∀ k, k < w.heap.size → W'.heap[k]? = w.heap[k]?) → W'.cell? ⟨w0.heap.size + 2, 0, none⟩ = some (.slice A5 vs.length c5)) := Lib.hid fun W' h => cell_one ((h.2.2 _ (by omega)).trans HROW.out.1)
    go_enter Tryz.func71, Tryz.ntmps71
    go_wp2
    refine wp_region_K (fun w' => NumAt w0 vs w' ∧ Same S w w') (fun j => true) (by kernel_rfl) ?_
    refine wpK_take (v := ?_) (a' := ?_) 0 rfl (by kernel_rfl) (by kernel_rfl) (by kernel_rfl) (by kernel_rfl) (by kernel_rfl) (fun _ _ _ h => h) (⟨HI.out.drew, Same.refl _ _⟩) ?_ ?_ ?_
    rotate_left 2
    · refine .inl ⟨by kernel_rfl, ?_⟩; intro wS hS; have q1 := HC.out _ hS; have q2 := HM.out _ hS.1; have q3 := HL.out _ hS.1; go_simp; with_reducible rfl
    · go_simp; with_reducible rfl
    refine wpK_take0 (v := ?_) (a' := ?_) 1 rfl (by kernel_rfl) (by kernel_rfl) (by kernel_rfl) (by kernel_rfl) (fun _ _ _ h => h) ?_ ?_ ?_
    rotate_left 2
    · refine .inl ⟨by kernel_rfl, ?_⟩; intro wS hS; clear hS; go_simp; with_reducible rfl
    · go_simp; with_reducible rfl
    refine wpK_take0 (v := ?_) (a' := ?_) 2 rfl (by kernel_rfl) (by kernel_rfl) (by kernel_rfl) (by kernel_rfl) (fun _ _ _ h => h) ?_ ?_ ?_
    rotate_left 2
    · refine .inl ⟨by kernel_rfl, ?_⟩; intro wS hS; clear hS; go_simp; with_reducible rfl
    · go_simp; with_reducible rfl
    refine wpK_take0 (v := ?_) (a' := ?_) 3 rfl (by kernel_rfl) (by kernel_rfl) (by kernel_rfl) (by kernel_rfl) (fun _ _ _ h => h) ?_ ?_ ?_
    rotate_left 2
    · refine .inl ⟨by kernel_rfl, ?_⟩; intro wS hS; clear hS; go_simp; with_reducible rfl
    · go_simp; with_reducible rfl
    refine wpK_take (v := ?_) (a' := ?_) 4 rfl (by kernel_rfl) (by kernel_rfl) (by kernel_rfl) (by kernel_rfl) (by kernel_rfl) (fun _ _ _ h => h) (⟨HI.out.drew, Same.refl _ _⟩) ?_ ?_ ?_
    rotate_left 2
    · refine .inl ⟨by kernel_rfl, ?_⟩; intro wS hS; have q1 := HC.out _ hS; have q2 := HM.out _ hS.1; have q3 := HL.out _ hS.1; go_simp; with_reducible rfl
    · go_simp; with_reducible rfl
    refine wpK_take (v := ?_) (a' := ?_) 5 rfl (by kernel_rfl) (by kernel_rfl) (by kernel_rfl) (by kernel_rfl) (by kernel_rfl) (fun _ _ _ h => h) (⟨HI.out.drew, Same.refl _ _⟩) ?_ ?_ ?_
    rotate_left 2
    · refine .inl ⟨by kernel_rfl, ?_⟩; intro wS hS; have q1 := HC.out _ hS; have q2 := HM.out _ hS.1; have q3 := HL.out _ hS.1; go_simp; with_reducible rfl
    · go_simp; with_reducible rfl
    refine wpK_take0 (v := ?_) (a' := ?_) 6 rfl (by kernel_rfl) (by kernel_rfl) (by kernel_rfl) (by kernel_rfl) (fun _ _ _ h => h) ?_ ?_ ?_
    rotate_left 2
    · refine .inl ⟨by kernel_rfl, ?_⟩; intro wS hS; clear hS; go_simp; with_reducible rfl
    · go_simp; with_reducible rfl
    refine wpK_take0 (v := ?_) (a' := ?_) 7 rfl (by kernel_rfl) (by kernel_rfl) (by kernel_rfl) (by kernel_rfl) (fun _ _ _ h => h) ?_ ?_ ?_
    rotate_left 2
    · refine .inl ⟨by kernel_rfl, ?_⟩; intro wS hS; clear hS; go_simp; with_reducible rfl
    · go_simp; with_reducible rfl
    refine wpK_take0 (v := ?_) (a' := ?_) 8 rfl (by kernel_rfl) (by kernel_rfl) (by kernel_rfl) (by kernel_rfl) (fun _ _ _ h => h) ?_ ?_ ?_
    rotate_left 2
    · refine .inl ⟨by kernel_rfl, ?_⟩; intro wS hS; clear hS; go_simp; with_reducible rfl
    · go_simp; with_reducible rfl
    refine wpK_take0 (v := ?_) (a' := ?_) 9 rfl (by kernel_rfl) (by kernel_rfl) (by kernel_rfl) (by kernel_rfl) (fun _ _ _ h => h) ?_ ?_ ?_
    rotate_left 2
    · refine .inl ⟨by kernel_rfl, ?_⟩; intro wS hS; clear hS; go_simp; with_reducible rfl
    · go_simp; with_reducible rfl
    refine wpK_take0 (v := ?_) (a' := ?_) 10 rfl (by kernel_rfl) (by kernel_rfl) (by kernel_rfl) (by kernel_rfl) (fun _ _ _ h => h) ?_ ?_ ?_
    rotate_left 2
    · refine .inl ⟨by kernel_rfl, ?_⟩; intro wS hS; clear hS; go_simp; with_reducible rfl
    · go_simp; with_reducible rfl
    refine wpK_end (by kernel_rfl) ?_ _
    go_wp2
    refine wp_region_K (fun w' => NumAt w0 vs w' ∧ Same S w w' ∧ (∀ k, k < w.heap.size → w'.heap[k]? = w.heap[k]?)) (fun j => j != 7) (by kernel_rfl) ?_
    refine wpK_take (v := ?_) (a' := ?_) 0 rfl (by kernel_rfl) (by kernel_rfl) (by kernel_rfl) (by kernel_rfl) (by kernel_rfl) (fun _ _ _ h => h) (⟨HI.out.drew.drew, Same.refl _ _, fun _ _ => rfl⟩) ?_ ?_ ?_
    rotate_left 2
    · refine .inl ⟨by kernel_rfl, ?_⟩; intro wS hS; have q1 := HC.out _ ⟨hS.1, hS.2.1⟩; have q2 := HM.out _ hS.1; have q3 := HC2.out _ hS; go_simp; with_reducible rfl
    · go_simp; with_reducible rfl
    refine wpK_take0 (v := ?_) (a' := ?_) 1 rfl (by kernel_rfl) (by kernel_rfl) (by kernel_rfl) (by kernel_rfl) (fun _ _ _ h => h) ?_ ?_ ?_
    rotate_left 2
    · refine .inl ⟨by kernel_rfl, ?_⟩; intro wS hS; clear hS; go_simp; with_reducible rfl
    · go_simp; with_reducible rfl
    refine wpK_take0 (v := ?_) (a' := ?_) 2 rfl (by kernel_rfl) (by kernel_rfl) (by kernel_rfl) (by kernel_rfl) (fun _ _ _ h => h) ?_ ?_ ?_
    rotate_left 2
    · refine .inl ⟨by kernel_rfl, ?_⟩; intro wS hS; clear hS; go_simp; with_reducible rfl
    · go_simp; with_reducible rfl
    refine wpK_take0 (v := ?_) (a' := ?_) 3 rfl (by kernel_rfl) (by kernel_rfl) (by kernel_rfl) (by kernel_rfl) (fun _ _ _ h => h) ?_ ?_ ?_
    rotate_left 2
    · refine .inl ⟨by kernel_rfl, ?_⟩; intro wS hS; clear hS; go_simp; with_reducible rfl
    · go_simp; with_reducible rfl
    refine wpK_take (v := ?_) (a' := ?_) 4 rfl (by kernel_rfl) (by kernel_rfl) (by kernel_rfl) (by kernel_rfl) (by kernel_rfl) (fun _ _ _ h => h) (⟨HI.out.drew.drew, Same.refl _ _, fun _ _ => rfl⟩) ?_ ?_ ?_
    rotate_left 2
    · refine .inl ⟨by kernel_rfl, ?_⟩; intro wS hS; have q1 := HC.out _ ⟨hS.1, hS.2.1⟩; have q2 := HM.out _ hS.1; have q3 := HC2.out _ hS; go_simp; with_reducible rfl
    · go_simp; with_reducible rfl
    refine wpK_take (v := ?_) (a' := ?_) 5 rfl (by kernel_rfl) (by kernel_rfl) (by kernel_rfl) (by kernel_rfl) (by kernel_rfl) (fun _ _ _ h => h) (⟨HI.out.drew.drew, Same.refl _ _, fun _ _ => rfl⟩) ?_ ?_ ?_
    rotate_left 2
    · refine .inl ⟨by kernel_rfl, ?_⟩; intro wS hS; have q1 := HC.out _ ⟨hS.1, hS.2.1⟩; have q2 := HM.out _ hS.1; have q3 := HC2.out _ hS; go_simp; with_reducible rfl
    · go_simp; with_reducible rfl
    refine wpK_take0 (v := ?_) (a' := ?_) 6 rfl (by kernel_rfl) (by kernel_rfl) (by kernel_rfl) (by kernel_rfl) (fun _ _ _ h => h) ?_ ?_ ?_
    rotate_left 2
    · refine .inl ⟨by kernel_rfl, ?_⟩; intro wS hS; clear hS; go_simp; with_reducible rfl
    · go_simp; with_reducible rfl
    refine wpK_one 7 rfl (by kernel_rfl) (fun K hK => ?_)
    have HKK := Lib.hid hK
    clear hK
    refine wpList_mapUpdate_own _ rfl (.tmp 23) (.tmp 27) (.tmp 29) 71 rfl 3 3 (Maps.int_keyed Tryz.underlying3) Tryz.underlying71 (plainElem Tryz.prog 3) w0.heap.size vs.length D rfl HD.out.1 (by unfold maxLen; omega) (.int .i64 t.num) (.int .i64 vs.length) (.int .i64 t.num) rfl rfl (Maps.keyOf_int_mk Tryz.underlying3 (wf64 hn)) (.lit (.int .i64 vs.length)) [] (plainElem_int Tryz.underlying3 (wf64 (by omega))) ?_
    intro w1 hown1 hg1
    have HW1 := Lib.hid (And.intro (NumMap.next HD.out.2.1 HD.out.2.2 HMM.out hown1) hg1)
    clear hown1 hg1
    refine wpList_nil ?_
    refine HKK.out _ _ (fun h => absurd h (by decide)) ?_
    refine wpK_end (by kernel_rfl) ?_ _
    clear HKK HD HC2 HL HM
    have hz1 : w.heap.size ≤ w1.heap.size := HW1.out.2.size
    have hold : ∀ k, k < w.heap.size → k ≠ w0.heap.size → w1.heap[k]? = w.heap[k]? := fun k hk hne => HW1.out.2.block k hk (by simpa using hne)
    have HOLD := Lib.hid hold
    clear hold
    have HCN : Hid (∀ W', Below w1.heap.size w1 W' → W'.cell? ⟨b, o + 1, none⟩ = some (.int .i64 t.num)) := Lib.hid fun W' h => (HN.out.keep (Same.trans (S := S) (fun x y hx => World.cell?_of_block (a := ⟨x, y, none⟩) (HOLD.out x (by have := hS x hx; omega) (by have := hS x hx; omega))) (Same.of_below h (fun x hx => by have := hS x hx; omega))) hSb).2.1
    have HC3 : Hid (∀ W', Below w1.heap.size w1 W' → W'.cell? ⟨w0.heap.size + 2, 0, none⟩ = some (.slice A5 vs.length c5)) := Lib.hid fun W' h => cell_one ((h.block _ (by omega)).trans ((HOLD.out _ (by omega) (by omega)).trans HROW.out.1))
    go_wp2
    refine wp_region_K (fun w' => Below w1.heap.size w1 w') (fun j => j != 6 && j != 7) (by kernel_rfl) ?_
    refine wpK_take (v := ?_) (a' := ?_) 0 rfl (by kernel_rfl) (by kernel_rfl) (by kernel_rfl) (by kernel_rfl) (by kernel_rfl) (fun _ _ _ h => h) (below_drew1 (Below.refl _ _)) ?_ ?_ ?_
    rotate_left 2
    · refine .inl ⟨by kernel_rfl, ?_⟩; intro wS hS; have q1 := HCN.out _ hS; have q3 := HC3.out _ hS; go_simp; with_reducible rfl
    · go_simp; with_reducible rfl
    refine wpK_take0 (v := ?_) (a' := ?_) 1 rfl (by kernel_rfl) (by kernel_rfl) (by kernel_rfl) (by kernel_rfl) (fun _ _ _ h => h) ?_ ?_ ?_
    rotate_left 2
    · refine .inl ⟨by kernel_rfl, ?_⟩; intro wS hS; clear hS; go_simp; with_reducible rfl
    · go_simp; with_reducible rfl
    refine wpK_take0 (v := ?_) (a' := ?_) 2 rfl (by kernel_rfl) (by kernel_rfl) (by kernel_rfl) (by kernel_rfl) (fun _ _ _ h => h) ?_ ?_ ?_
    rotate_left 2
    · refine .inl ⟨by kernel_rfl, ?_⟩; intro wS hS; clear hS; go_simp; with_reducible rfl
    · go_simp; with_reducible rfl
    refine wpK_take0 (v := ?_) (a' := ?_) 3 rfl (by kernel_rfl) (by kernel_rfl) (by kernel_rfl) (by kernel_rfl) (fun _ _ _ h => h) ?_ ?_ ?_
    rotate_left 2
    · refine .inl ⟨by kernel_rfl, ?_⟩; intro wS hS; clear hS; go_simp; with_reducible rfl
    · go_simp; with_reducible rfl
    refine wpK_take (v := ?_) (a' := ?_) 4 rfl (by kernel_rfl) (by kernel_rfl) (by kernel_rfl) (by kernel_rfl) (by kernel_rfl) (fun _ _ _ h => h) (below_drew1 (Below.refl _ _)) ?_ ?_ ?_
    rotate_left 2
    · refine .inl ⟨by kernel_rfl, ?_⟩; intro wS hS; have q1 := HCN.out _ hS; have q3 := HC3.out _ hS; go_simp; with_reducible rfl
    · go_simp; with_reducible rfl
    refine wpK_one 5 rfl (by kernel_rfl) (fun K hK => ?_)
    have HKK := Lib.hid hK
    clear hK
    go_wp2
    refine HKK.out _ _ (fun _ hS => hS.trans ((below_new _ _).mono hS.size)) ?_
    refine wpK_one 6 rfl (by kernel_rfl) (fun K hK => ?_)
    have HKK := Lib.hid hK
    clear hK
    have hbw : Below w1.heap.size w1 (w1.alloc (.cells #[.int .i64 t.num] 3)).drew := below_drew1 (below_new w1 _)
    have hro : (w1.alloc (.cells #[.int .i64 t.num] 3)).drew.ownsRow (w0.heap.size + 3) 3 1 (.slice A5 vs.length c5) vs.length (cells vs) :=
      (World.ownsRow.kept (w := w.drew.drew) HROW.out.2 HW1.out.2 (num_apart HROW.out.2 (by omega))).alloc _
    have HRO := Lib.hid hro
    have HBW := Lib.hid hbw
    obtain ⟨i0, hi, hi0, hi1, hi2⟩ := info_parts intInfo
    have HI0 := Lib.hid (And.intro hi (And.intro hi0 (And.intro hi1 hi2)))
    clear hi hi0 hi1 hi2 hro hbw
    refine wpList_append_own_at _ rfl (.tmp 30) (.tmp 35) 26 rfl (w0.heap.size + 3) 3 i0 (.int .i64 0) 1 8 Tryz.underlying26 HI0.out.1 HI0.out.2.1 HI0.out.2.2.1 HI0.out.2.2.2 rfl (by decide)
      (.slice A5 vs.length c5) vs.length (cells vs) rfl HRO.out ⟨w1.heap.size, 0, none⟩ 1 1 [.int .i64 t.num] rfl rfl ?c1 ?c2 ?c3 ?c4 ?c5 ?_
    case c1 => exact new_cells w1 [.int .i64 t.num] 3
    case c2 => simp [Value.oneCell']
    case c3 => unfold maxLen; omega
    case c4 => omega
    case c5 => simp; omega
    intro v' w2 hown2 hgrow _ hv'
    obtain ⟨A4, n4, c4, rfl⟩ := own_slice hown2
    have HO := Lib.hid (And.intro hown2 (And.intro hgrow hv'))
    clear hown2 hgrow hv'
    refine wpList_nil ?_
    refine HKK.out _ _ (fun h => absurd h (by decide)) ?_
    refine wpK_one 7 rfl (by kernel_rfl) (fun K hK => ?_)
    have HKK := Lib.hid hK
    clear hK
    have hb2 : ∀ k, k < w0.heap.size + 3 → k ≠ w0.heap.size → w2.heap[k]? = w.heap[k]? := fun k hk hne => by
      rw [HO.out.2.1.block k (by have := HBW.out.size; omega) (fun e => by have := (HRO.out.lt _ e.symm).1; omega), HBW.out.block k (by omega)]; exact HOLD.out k (by omega) hne
    have hbm : w2.heap[w0.heap.size]? = w1.heap[w0.heap.size]? := by
      rw [HO.out.2.1.block _ (by have := HBW.out.size; omega) (fun e => by have := (HRO.out.lt _ e.symm).1; omega), HBW.out.block _ (by omega)]
    have hs2 := (hb2 (w0.heap.size + 2) (by omega) (by omega)).trans HROW.out.1
    have HB2 := Lib.hid (And.intro hb2 (And.intro hbm hs2))
    have f1 := cell_one hs2
    have f2 := frozen_of_row w2 (w0.heap.size + 2) 0 _ _ hs2
    clear hb2 hbm hs2
    go_wp2
    refine HKK.out _ _ (fun h => absurd h (by decide)) ?_
    refine wpK_end (by kernel_rfl) ?_ _
    clear HKK f1 f2
    go_wp2
    go_ret
    refine ⟨rfl, ?_⟩
    rw [HV.out, if_pos ⟨HK.out, HMM.out⟩]
    exact num_next HI.out HW1.out.1 HW1.out.2 HBW.out HRO.out HO.out.1 HO.out.2.1 HB2.out.1 HB2.out.2.1 HB2.out.2.2 hfew
theorem vstep_len (vs : List Int) (t : Tt) : (vstep vs t).1.length ≤ vs.length + 1 := by unfold vstep; simp only; split <;> simp
theorem num_start (w : World) : NumAt w [] (((w.alloc (.map #[] 0)).alloc (.cells #[.map (some w.heap.size)] 71)).alloc (.cells #[.slice none 0 0] 26)) := by
  refine ⟨((below_new w _).alloc (by simp) _).alloc (by simp; omega) _, ?_, heap_alloc3_mid _ _ _ _, ⟨_, heap_alloc3_new _ _ _ _, World.ownsRow_nil _ _ _ _⟩, by simp⟩
  exact ((NumMap.made Tryz.prog 3 3 w).block (w' := ((w.alloc (.map #[] 0)).alloc (.cells #[.map (some w.heap.size)] 71)).alloc (.cells #[.slice none 0 0] 26)) (by rw [heap_alloc3_old, heap_alloc_new]))
theorem renum_asked (w : World) (S : Nat → Prop) (hS : ∀ b, S b → b < w.heap.size) : Asked w S (NumAt w) 71 #[.pointer (some ⟨w.heap.size + 1, 0, none⟩), .pointer (some ⟨w.heap.size + 2, 0, none⟩)] vstep (fun vs _ => vs.length + 1 ≤ 1048576) :=
  ⟨fun s w' h => Same.of_below h.below hS, fun args w => by kernel_rfl, fun vs w' d t b o hI hg hP => renum1_any w w' vs S hS hI hg d t b o hP⟩
/-- What renumbered returns. -/
def Renum (w : World) (vs : List Int) (e : Ending) (w' : World) : Prop :=
  ∃ A c, e = .returned (.tuple #[.map (some w.heap.size), .slice A vs.length c]) ∧ NumMap Tryz.prog 3 3 w' w.heap.size vs.length vs ∧ IntsAt w' w'.heap.size A vs ∧ vs.length ≤ c ∧ c ≤ maxLen ∧ (∀ ad : Addr, A = some ad → w.heap.size ≤ ad.block) ∧ Below w.heap.size w w'
theorem renum_any (d : Nat) (t : Tt) (b o : Nat) (w : World) (S : Nat → Prop) (hS : ∀ b, S b → b < w.heap.size) (hP : TyP w S d t b o) (hsz : (pre t).length ≤ 1048576) :
    Calls Tryz.prog 51 #[.pointer (some ⟨b, o, none⟩)] w (Renum w (varsT t)) := by
  have HC : Hid (∃ w3, w3 = ((w.alloc (.map #[] 0)).alloc (.cells #[.map (some w.heap.size)] 71)).alloc (.cells #[.slice none 0 0] 26) ∧
      Calls Tryz.prog 48 #[.pointer (some ⟨b, o, none⟩), .func (.func 71) #[] #[.pointer (some ⟨w.heap.size + 1, 0, none⟩), .pointer (some ⟨w.heap.size + 2, 0, none⟩)]] w3 fun e w' => e = .returned (.bool true) ∧ NumAt w (varsT t) w') := Lib.hid (by
    refine ⟨_, rfl, ?_⟩
    have := all_any (renum_asked w S hS) d t [] _ b o (num_start w) (goods_of vstep List.length 1048576 vstep_len (fun _ _ h => h) _ _ (by simpa using hsz)) hP
    rw [scan_true (fun s a => rfl)] at this
    exact this)
  obtain ⟨w3, hw3, hc3⟩ := HC.out
  have HW := Lib.hid hw3
  have H3 := Lib.hid hc3
  have hmm := @run_makeMap Tryz.prog
  clear HC hw3 hc3 hP hS hsz
  go_enter Tryz.func51, Tryz.ntmps51
  go_wp2_with fail
  rw [← HW.out]
  refine H3.out.mono ?_
  rintro e w1 ⟨rfl, hat⟩
  have HAT := Lib.hid hat
  obtain ⟨sv, hsv, hrow⟩ := hat.row
  obtain ⟨A5, c5, hsv5⟩ := own_form hrow
  subst hsv5
  have HROW := Lib.hid (And.intro hsv hrow)
  have q1 := cell_one hat.mcell
  have q2 := cell_one hsv
  clear hsv hrow hat
  go_wp2
  refine wp_region_K (fun w' => w'.heap = w1.heap) (fun j => true) (by kernel_rfl) ?_
  refine wpK_take (v := ?_) (a' := ?_) 0 rfl (by kernel_rfl) (by kernel_rfl) (by kernel_rfl) (by kernel_rfl) (by kernel_rfl) (fun _ _ _ h => h) (rfl) ?_ ?_ ?_
  rotate_left 2
  · refine .inl ⟨by kernel_rfl, ?_⟩; intro wS hS; have q3 : wS.cell? ⟨w.heap.size + 1, 0, none⟩ = some (.map (some w.heap.size)) := (World.cell?_of_block (a := ⟨w.heap.size + 1, 0, none⟩) (by rw [hS])).trans q1; have q4 : wS.cell? ⟨w.heap.size + 2, 0, none⟩ = some (.slice A5 (varsT t).length c5) := (World.cell?_of_block (a := ⟨w.heap.size + 2, 0, none⟩) (by rw [hS])).trans q2; clear hS; go_simp; with_reducible rfl
  · go_simp; with_reducible rfl
  refine wpK_take (v := ?_) (a' := ?_) 1 rfl (by kernel_rfl) (by kernel_rfl) (by kernel_rfl) (by kernel_rfl) (by kernel_rfl) (fun _ _ _ h => h) (rfl) ?_ ?_ ?_
  rotate_left 2
  · refine .inl ⟨by kernel_rfl, ?_⟩; intro wS hS; have q3 : wS.cell? ⟨w.heap.size + 1, 0, none⟩ = some (.map (some w.heap.size)) := (World.cell?_of_block (a := ⟨w.heap.size + 1, 0, none⟩) (by rw [hS])).trans q1; have q4 : wS.cell? ⟨w.heap.size + 2, 0, none⟩ = some (.slice A5 (varsT t).length c5) := (World.cell?_of_block (a := ⟨w.heap.size + 2, 0, none⟩) (by rw [hS])).trans q2; clear hS; go_simp; with_reducible rfl
  · go_simp; with_reducible rfl
  refine wpK_take0 (v := ?_) (a' := ?_) 2 rfl (by kernel_rfl) (by kernel_rfl) (by kernel_rfl) (by kernel_rfl) (fun _ _ _ h => h) ?_ ?_ ?_
  rotate_left 2
  · refine .inl ⟨by kernel_rfl, ?_⟩; intro wS hS; clear hS; go_simp; with_reducible rfl
  · go_simp; with_reducible rfl
  refine wpK_take0 (v := ?_) (a' := ?_) 3 rfl (by kernel_rfl) (by kernel_rfl) (by kernel_rfl) (by kernel_rfl) (fun _ _ _ h => h) ?_ ?_ ?_
  rotate_left 2
  · refine .inl ⟨by kernel_rfl, ?_⟩; intro wS hS; clear hS; go_simp; with_reducible rfl
  · go_simp; with_reducible rfl
  refine wpK_end (by kernel_rfl) ?_ _
  go_wp2
  go_ret2
  obtain ⟨_, h2, h3, h4⟩ := ints_own HROW.out.2
  exact ⟨A5, c5, rfl, HAT.out.map, h2, h3, h4, fun ad e => by subst e; have := (HROW.out.2.lt _ rfl).1; omega, below_drew1 HAT.out.below⟩
end Go.Proofs.YtoopopjcojphaaaGreatDoor
