/-
  PLAIN MATHEMATICS OF NUMBERING: a type whose variables are numbered as they come. Nothing of the program is named here.
-/
import Derived.Test.YtgdclchpccbifaaTyS
namespace Go.Proofs.Ytgdclchpccbifaa
def mapN (f : Int → Int) (t : Tt) : Tt := cp (fun u => .mk u.kind (f u.num) u.name u.args) t
theorem mapN_var {f : Int → Int} {k n : Int} {s : ByteArray} {l : List Tt} (h : k = 1) : mapN f (.mk k n s l) = .mk k (f n) s (l.map (mapN f)) := cp_var h
theorem mapN_con {f : Int → Int} {k n : Int} {s : ByteArray} {l : List Tt} (h : k ≠ 1) : mapN f (.mk k n s l) = .mk k n s (l.map (mapN f)) := cp_con h
theorem mapN_kind (f : Int → Int) (t : Tt) : (mapN f t).kind = t.kind := by
  obtain ⟨k, n, s, l⟩ := t
  by_cases h : k = 1
  · rw [mapN_var h]; rfl
  · rw [mapN_con h]; rfl
theorem mapN_name (f : Int → Int) (t : Tt) : (mapN f t).name = t.name := by
  obtain ⟨k, n, s, l⟩ := t
  by_cases h : k = 1
  · rw [mapN_var h]; rfl
  · rw [mapN_con h]; rfl
theorem mapN_args (f : Int → Int) (t : Tt) : (mapN f t).args = t.args.map (mapN f) := by
  obtain ⟨k, n, s, l⟩ := t
  by_cases h : k = 1
  · rw [mapN_var h]; rfl
  · rw [mapN_con h]; rfl
theorem mapN_num (f : Int → Int) (t : Tt) : (mapN f t).num = if t.kind = 1 then f t.num else t.num := by
  obtain ⟨k, n, s, l⟩ := t
  by_cases h : k = 1
  · rw [mapN_var h, if_pos (by exact h)]; rfl
  · rw [mapN_con h, if_neg (by exact h)]; rfl
mutual
theorem pre_mapN (f : Int → Int) : ∀ t : Tt, pre (mapN f t) = (pre t).map (mapN f)
  | .mk k n s l => by
    have h := preL_mapN f l
    by_cases hk : k = 1
    · rw [mapN_var hk, pre, pre, List.map_cons, mapN_var hk, h]
    · rw [mapN_con hk, pre, pre, List.map_cons, mapN_con hk, h]
theorem preL_mapN (f : Int → Int) : ∀ l : List Tt, preL (l.map (mapN f)) = (preL l).map (mapN f)
  | [] => rfl
  | t :: r => by rw [List.map_cons, preL, preL, pre_mapN f t, preL_mapN f r, List.map_append]
end
mutual
theorem mapN_congr {f g : Int → Int} : ∀ t : Tt, (∀ u ∈ pre t, u.kind = 1 → f u.num = g u.num) → mapN f t = mapN g t
  | .mk k n s l, h => by
    have hl := mapN_congrL l fun u hu hk => h u (by rw [pre]; exact List.mem_cons_of_mem _ hu) hk
    by_cases hk : k = 1
    · rw [mapN_var hk, mapN_var hk, hl, show f n = g n from h (.mk k n s l) (by rw [pre]; exact List.mem_cons_self ..) hk]
    · rw [mapN_con hk, mapN_con hk, hl]
theorem mapN_congrL {f g : Int → Int} : ∀ l : List Tt, (∀ u ∈ preL l, u.kind = 1 → f u.num = g u.num) → l.map (mapN f) = l.map (mapN g)
  | [], _ => rfl
  | t :: r, h => by
    rw [List.map_cons, List.map_cons, mapN_congr t fun u hu hk => h u (by rw [preL]; exact List.mem_append_left _ hu) hk, mapN_congrL r fun u hu hk => h u (by rw [preL]; exact List.mem_append_right _ hu) hk]
end
mutual
theorem mapN_comp (f g : Int → Int) : ∀ t : Tt, mapN f (mapN g t) = mapN (fun x => f (g x)) t
  | .mk k n s l => by
    have hl := mapN_compL f g l
    by_cases hk : k = 1
    · rw [mapN_var hk, mapN_var hk, mapN_var hk, hl]
    · rw [mapN_con hk, mapN_con hk, mapN_con hk, hl]
theorem mapN_compL (f g : Int → Int) : ∀ l : List Tt, (l.map (mapN g)).map (mapN f) = l.map (mapN fun x => f (g x))
  | [] => rfl
  | t :: r => by rw [List.map_cons, List.map_cons, List.map_cons, mapN_comp f g t, mapN_compL f g r]
end
theorem canon_mapN (t : Tt) : canonT t = mapN (place0 (varsT t)) t := rfl
/-! ### The variables of a numbered type -/
theorem vstep_mem {vs : List Int} {t : Tt} {x : Int} : x ∈ (vstep vs t).1 ↔ x ∈ vs ∨ (t.kind = 1 ∧ x = t.num) := by
  unfold vstep; simp only
  split
  · rename_i h; rw [List.mem_append, List.mem_singleton]; exact ⟨fun e => e.imp id fun e => ⟨h.1, e⟩, fun e => e.imp id fun e => e.2⟩
  · rename_i h
    refine ⟨.inl, fun e => e.elim id fun e => ?_⟩
    rw [e.2]
    exact Decidable.of_not_not fun hn => h ⟨e.1, hn⟩
theorem vscan_iff {x : Int} : ∀ (P : List Tt) (vs : List Int), x ∈ (scan vstep vs P).1 ↔ x ∈ vs ∨ ∃ u ∈ P, u.kind = 1 ∧ x = u.num
  | [], vs => by simp [scan_nil]
  | a :: r, vs => by
    rw [scan_yes vstep rfl, vscan_iff r, vstep_mem]
    constructor
    · rintro ((h | h) | ⟨u, hu, h⟩)
      · exact .inl h
      · exact .inr ⟨a, List.mem_cons_self .., h⟩
      · exact .inr ⟨u, List.mem_cons_of_mem _ hu, h⟩
    · rintro (h | ⟨u, hu, h⟩)
      · exact .inl (.inl h)
      · rcases List.mem_cons.1 hu with rfl | hu
        · exact .inl (.inr h)
        · exact .inr ⟨u, hu, h⟩
theorem vstep_nodup {vs : List Int} (h : vs.Nodup) (t : Tt) : (vstep vs t).1.Nodup := by
  unfold vstep; simp only
  split
  · rename_i hc
    rw [List.nodup_append]
    refine ⟨h, by simp, ?_⟩
    intro a ha b hb e
    rw [List.mem_singleton] at hb
    subst hb; subst e
    exact hc.2 ha
  · exact h
theorem vscan_nodup : ∀ (P : List Tt) {vs : List Int}, vs.Nodup → (scan vstep vs P).1.Nodup
  | [], _, h => h
  | a :: r, vs, h => by rw [scan_yes vstep rfl]; exact vscan_nodup r (vstep_nodup h a)
theorem vars_nodup (t : Tt) : (varsT t).Nodup := vscan_nodup _ List.nodup_nil
theorem vscan_map {f : Int → Int} : ∀ (P : List Tt) (vs : List Int), (∀ x ∈ (scan vstep vs P).1, ∀ y ∈ (scan vstep vs P).1, f x = f y → x = y) → (scan vstep (vs.map f) (P.map (mapN f))).1 = (scan vstep vs P).1.map f
  | [], _, _ => rfl
  | a :: r, vs, h => by
    rw [List.map_cons, scan_yes vstep rfl, scan_yes vstep rfl]
    have e : (vstep (vs.map f) (mapN f a)).1 = (vstep vs a).1.map f := by
      unfold vstep; simp only [mapN_kind, mapN_num]
      by_cases hk : a.kind = 1
      · simp only [hk, if_true, true_and]
        have ha : a.num ∈ (scan vstep vs (a :: r)).1 := vscan_mem _ _ a (List.mem_cons_self ..) hk
        have e : f a.num ∈ vs.map f ↔ a.num ∈ vs := by
          constructor
          · intro hm
            obtain ⟨x, hx, e⟩ := List.mem_map.1 hm
            rw [h x (vscan_sub _ _ x hx) _ ha e] at hx; exact hx
          · exact fun hm => List.mem_map_of_mem hm
        by_cases hm : a.num ∈ vs
        · rw [if_neg (fun c => c (e.2 hm)), if_neg (fun c => c hm)]
        · rw [if_pos (fun c => hm (e.1 c)), if_pos hm, List.map_append]; rfl
      · rw [if_neg (fun c => hk c.1), if_neg (fun c => hk c.1)]
    rw [e]
    rw [scan_yes vstep rfl] at h
    exact vscan_map r _ h
theorem vars_map {f : Int → Int} {t : Tt} (h : ∀ x ∈ varsT t, ∀ y ∈ varsT t, f x = f y → x = y) : varsT (mapN f t) = (varsT t).map f := by
  unfold varsT; rw [pre_mapN]; exact vscan_map (pre t) [] h
theorem place0_inj {vs : List Int} {x y : Int} (hx : x ∈ vs) (hy : y ∈ vs) (h : place0 vs x = place0 vs y) : x = y := by
  unfold place0 at h
  rw [if_pos hx, if_pos hy] at h
  have hx' := List.getElem_idxOf (List.idxOf_lt_length_of_mem hx)
  have hy' := List.getElem_idxOf (List.idxOf_lt_length_of_mem hy)
  have e : vs.idxOf x = vs.idxOf y := by omega
  rw [← hx', ← hy']
  simp only [e]
theorem place0_at {vs : List Int} (hn : vs.Nodup) (i : Nat) (h : i < vs.length) : place0 vs vs[i] = i := by
  unfold place0
  rw [if_pos (List.getElem_mem h), List.Nodup.idxOf_getElem hn]
/-- The variables of a numbered type are 0, 1, .. -/
theorem canon_vars (t : Tt) : varsT (canonT t) = (List.range (varsT t).length).map fun (i : Nat) => (i : Int) := by
  rw [canon_mapN, vars_map fun x hx y hy h => place0_inj hx hy h]
  apply List.ext_getElem
  · simp
  · intro i h1 h2
    rw [List.getElem_map, List.getElem_map, List.getElem_range, place0_at (vars_nodup t)]
theorem canon_canon (t : Tt) : canonT (canonT t) = canonT t := by
  rw [canon_mapN (canonT t), canon_vars]
  rw [canon_mapN t, mapN_comp]
  refine mapN_congr t fun u hu hk => ?_
  have hm := vars_mem hu hk
  have hi := List.idxOf_lt_length_of_mem hm
  have e : place0 (varsT t) u.num = ((varsT t).idxOf u.num : Nat) := by unfold place0; rw [if_pos hm]
  rw [e]
  have hn : ((List.range (varsT t).length).map fun (i : Nat) => (i : Int)).Nodup := List.Pairwise.map _ (fun a b h e => h (Int.ofNat.inj e)) List.nodup_range
  have h := place0_at hn ((varsT t).idxOf u.num) (by simpa using hi)
  simp only [List.getElem_map, List.getElem_range] at h
  exact h
/-! ### Back -/
def backL (vs : List Int) : List Tt := vs.map fun x => Tt.mk 1 x ⟨#[]⟩ []
mutual
theorem back_eq (vs : List Int) : ∀ t : Tt, formedT t = true → (∀ u ∈ pre t, u.kind = 1 → u.num ∈ vs) → putT (backL vs) (mapN (place0 vs) t) = t
  | .mk k n s l, h, hv => by
    by_cases hk : k = 1
    · obtain ⟨_, rfl, rfl⟩ := formed_var h hk
      subst hk
      have hm : n ∈ vs := hv (.mk 1 n ⟨#[]⟩ []) (by simp [pre]) rfl
      have hi := List.idxOf_lt_length_of_mem hm
      rw [mapN_var rfl]
      unfold putT
      rw [cp_var rfl]
      have e : place0 vs n = (vs.idxOf n : Nat) := by unfold place0; rw [if_pos hm]
      rw [e]
      unfold putG
      rw [dif_pos (by simp only [Tt.num, backL, List.length_map]; omega)]
      simp only [Tt.num, backL, List.getElem_map, Int.toNat_natCast, List.getElem_idxOf hi]
    · have := back_eqL vs l (fun t ht => (formed_node h).2 t ht) fun t ht u hu => hv u (by simp only [pre]; exact List.mem_cons_of_mem _ (mem_preL ht hu))
      rw [mapN_con hk]
      unfold putT
      rw [cp_con hk]
      rw [show (l.map (mapN (place0 vs))).map (cp (putG (backL vs))) = l from this]
theorem back_eqL (vs : List Int) : ∀ l : List Tt, (∀ t ∈ l, formedT t = true) → (∀ t ∈ l, ∀ u ∈ pre t, u.kind = 1 → u.num ∈ vs) → (l.map (mapN (place0 vs))).map (putT (backL vs)) = l
  | [], _, _ => rfl
  | t :: r, h, hv => by
    rw [List.map_cons, List.map_cons, back_eq vs t (h t (List.mem_cons_self ..)) (hv t (List.mem_cons_self ..)), back_eqL vs r (fun u hu => h u (List.mem_cons_of_mem _ hu)) fun u hu => hv u (List.mem_cons_of_mem _ hu)]
end
theorem canon_back {t : Tt} (h : formedT t = true) : putT (backL (varsT t)) (canonT t) = t := back_eq _ t h fun _ hu hk => vars_mem hu hk
/-! ### Numbered alike -/
def headT (t : Tt) : Int × Int × ByteArray × Nat := (t.kind, t.num, t.name, t.args.length)
mutual
/-- A forest is told by the heads of its nodes, in their order. -/
theorem heads_inj : ∀ (t u : Tt) (R R' : List Tt), (pre t ++ R).map headT = (pre u ++ R').map headT → t = u ∧ R.map headT = R'.map headT
  | .mk k n s l, .mk k' n' s' l', R, R', h => by
    rw [pre, pre, List.cons_append, List.cons_append, List.map_cons, List.map_cons] at h
    obtain ⟨h0, h1⟩ := List.cons.inj h
    simp only [headT, Tt.kind, Tt.num, Tt.name, Tt.args, Prod.mk.injEq] at h0
    obtain ⟨rfl, rfl, rfl, hl⟩ := h0
    obtain ⟨rfl, h2⟩ := heads_injL l l' R R' hl h1
    exact ⟨rfl, h2⟩
theorem heads_injL : ∀ (l m : List Tt) (R R' : List Tt), l.length = m.length → (preL l ++ R).map headT = (preL m ++ R').map headT → l = m ∧ R.map headT = R'.map headT
  | [], m, R, R', hl, h => by
    obtain rfl : m = [] := List.eq_nil_of_length_eq_zero hl.symm
    exact ⟨rfl, h⟩
  | t :: r, m, R, R', hl, h => by
    match m, hl, h with
    | u :: q, hl, h =>
      rw [preL, preL, List.append_assoc, List.append_assoc] at h
      obtain ⟨rfl, h2⟩ := heads_inj t u _ _ h
      obtain ⟨rfl, h3⟩ := heads_injL r q R R' (by simpa using hl) h2
      exact ⟨rfl, h3⟩
end
/-- Node i of the two: of one kind, name, number of arguments, and, unless a variable, number. -/
def nodeLike (P Q : List Tt) (i : Nat) : Prop := ∀ (h1 : i < P.length) (h2 : i < Q.length), P[i].kind = Q[i].kind ∧ P[i].name = Q[i].name ∧ P[i].args.length = Q[i].args.length ∧ (P[i].kind ≠ 1 → P[i].num = Q[i].num)
/-- Variables k and i of the two: alike or unlike in both. -/
def varLike (P Q : List Tt) (i k : Nat) : Prop := ∀ (h1 : i < P.length) (h2 : i < Q.length) (h3 : k < P.length) (h4 : k < Q.length), P[i].kind = 1 → P[k].kind = 1 → (P[k].num = P[i].num ↔ Q[k].num = Q[i].num)
def Alike (P Q : List Tt) : Prop := P.length = Q.length ∧ ∀ i, nodeLike P Q i ∧ ∀ k, k < i → varLike P Q i k
theorem alike_of_canon {t u : Tt} (h : canonT t = canonT u) : Alike (pre t) (pre u) := by
  rw [canon_mapN, canon_mapN] at h
  have hp : (pre t).map (mapN (place0 (varsT t))) = (pre u).map (mapN (place0 (varsT u))) := by rw [← pre_mapN, ← pre_mapN, h]
  have hl : (pre t).length = (pre u).length := by simpa using congrArg List.length hp
  have hat : ∀ i (h1 : i < (pre t).length) (h2 : i < (pre u).length), mapN (place0 (varsT t)) (pre t)[i] = mapN (place0 (varsT u)) (pre u)[i] := by
    intro i h1 h2
    have := congrArg (fun l => l[i]?) hp
    simpa [List.getElem?_eq_getElem h1, List.getElem?_eq_getElem h2] using this
  have hnode : ∀ i, nodeLike (pre t) (pre u) i := by
    intro i h1 h2
    have e := hat i h1 h2
    have ek := congrArg Tt.kind e
    rw [mapN_kind, mapN_kind] at ek
    have en := congrArg Tt.name e
    rw [mapN_name, mapN_name] at en
    have ea := congrArg (fun t => t.args.length) e
    simp only [mapN_args, List.length_map] at ea
    refine ⟨ek, en, ea, fun hk => ?_⟩
    have em := congrArg Tt.num e
    rw [mapN_num, mapN_num, if_neg hk, if_neg (by rw [← ek]; exact hk)] at em
    exact em
  refine ⟨hl, fun i => ⟨hnode i, fun k hki h1 h2 h3 h4 hi hk => ?_⟩⟩
  have ei := congrArg Tt.num (hat i h1 h2)
  have ek := congrArg Tt.num (hat k h3 h4)
  have hi' : (pre u)[i].kind = 1 := by rw [← (hnode i h1 h2).1]; exact hi
  have hk' : (pre u)[k].kind = 1 := by rw [← (hnode k h3 h4).1]; exact hk
  rw [mapN_num, mapN_num, if_pos hi, if_pos hi'] at ei
  rw [mapN_num, mapN_num, if_pos hk, if_pos hk'] at ek
  constructor
  · intro e
    refine place0_inj (vars_mem (List.getElem_mem h4) hk') (vars_mem (List.getElem_mem h2) hi') ?_
    rw [← ei, ← ek, e]
  · intro e
    refine place0_inj (vars_mem (List.getElem_mem h3) hk) (vars_mem (List.getElem_mem h1) hi) ?_
    rw [ei, ek, e]
theorem vscan_take_mem {P : List Tt} {j : Nat} {x : Int} : x ∈ (scan vstep [] (P.take j)).1 ↔ ∃ k, ∃ h : k < P.length, k < j ∧ P[k].kind = 1 ∧ x = P[k].num := by
  rw [vscan_iff]
  constructor
  · rintro (h | ⟨u, hu, h⟩)
    · cases h
    · obtain ⟨k, hk, rfl⟩ := List.getElem_of_mem hu
      rw [List.length_take] at hk
      rw [List.getElem_take] at h
      exact ⟨k, by omega, by omega, h⟩
  · rintro ⟨k, hk, hj, h⟩
    refine .inr ⟨P[k], ?_, h⟩
    rw [← List.getElem_take (j := j) (h := by rw [List.length_take]; omega)]
    exact List.getElem_mem _
theorem place0_app {vs ws : List Int} {x : Int} (h : x ∈ vs) : place0 (vs ++ ws) x = place0 vs x := by
  unfold place0
  rw [if_pos h, if_pos (List.mem_append_left _ h), List.idxOf_append, if_pos h]
theorem place0_new {vs : List Int} {x : Int} (h : x ∉ vs) : place0 (vs ++ [x]) x = vs.length := by
  unfold place0
  rw [if_pos (by simp), List.idxOf_append, if_neg h]
  simp
theorem vstep_new {vs : List Int} {t : Tt} (hk : t.kind = 1) (hm : t.num ∉ vs) : (vstep vs t).1 = vs ++ [t.num] := by unfold vstep; simp only; rw [if_pos ⟨hk, hm⟩]
theorem vstep_old {vs : List Int} {t : Tt} (hm : t.num ∈ vs) : (vstep vs t).1 = vs := by unfold vstep; simp only; rw [if_neg fun c => c.2 hm]
theorem vstep_con {vs : List Int} {t : Tt} (hk : ¬ t.kind = 1) : (vstep vs t).1 = vs := by unfold vstep; simp only; rw [if_neg fun c => hk c.1]
theorem alike_places {P Q : List Tt} (h : Alike P Q) : ∀ j, j ≤ P.length → (scan vstep [] (P.take j)).1.length = (scan vstep [] (Q.take j)).1.length ∧ ∀ k (h1 : k < P.length) (h2 : k < Q.length), k < j → P[k].kind = 1 → place0 (scan vstep [] (P.take j)).1 P[k].num = place0 (scan vstep [] (Q.take j)).1 Q[k].num
  | 0, _ => ⟨rfl, fun k _ _ hk => absurd hk (Nat.not_lt_zero _)⟩
  | j + 1, hj => by
    obtain ⟨ih1, ih2⟩ := alike_places h j (by omega)
    have hP : j < P.length := by omega
    have hQ : j < Q.length := by have := h.1; omega
    rw [vstep_take hP, vstep_take hQ]
    have hn := (h.2 j).1 hP hQ
    by_cases hk : P[j].kind = 1
    · have hk' : Q[j].kind = 1 := by rw [← hn.1]; exact hk
      have hiff : P[j].num ∈ (scan vstep [] (P.take j)).1 ↔ Q[j].num ∈ (scan vstep [] (Q.take j)).1 := by
        rw [vscan_take_mem, vscan_take_mem]
        constructor
        · rintro ⟨k, h1, hkj, hk1, e⟩
          have h2 : k < Q.length := by have := h.1; omega
          exact ⟨k, h2, hkj, by rw [← ((h.2 k).1 h1 h2).1]; exact hk1, (((h.2 j).2 k hkj hP hQ h1 h2 hk hk1).1 e.symm).symm⟩
        · rintro ⟨k, h2, hkj, hk1, e⟩
          have h1 : k < P.length := by have := h.1; omega
          have hk1' : P[k].kind = 1 := by rw [((h.2 k).1 h1 h2).1]; exact hk1
          exact ⟨k, h1, hkj, hk1', (((h.2 j).2 k hkj hP hQ h1 h2 hk hk1').2 e.symm).symm⟩
      have hold : ∀ k (h1 : k < P.length) (h2 : k < Q.length), k < j → P[k].kind = 1 → P[k].num ∈ (scan vstep [] (P.take j)).1 ∧ Q[k].num ∈ (scan vstep [] (Q.take j)).1 := fun k h1 h2 hkj hk1 =>
        ⟨vscan_take_mem.2 ⟨k, h1, hkj, hk1, rfl⟩, vscan_take_mem.2 ⟨k, h2, hkj, by rw [← ((h.2 k).1 h1 h2).1]; exact hk1, rfl⟩⟩
      by_cases hm : P[j].num ∈ (scan vstep [] (P.take j)).1
      · have hm' := hiff.1 hm
        rw [vstep_old hm, vstep_old hm']
        refine ⟨ih1, fun k h1 h2 hkj hk1 => ?_⟩
        by_cases e : k = j
        · subst e
          obtain ⟨i, hi, hij, hi1, ei⟩ := vscan_take_mem.1 hm
          have hi2 : i < Q.length := by have := h.1; omega
          have := ih2 i hi hi2 hij hi1
          rw [ei, this, ((h.2 k).2 i hij hP hQ hi hi2 hk hi1).1 ei.symm]
        · exact ih2 k h1 h2 (by omega) hk1
      · have hm' : ¬ Q[j].num ∈ (scan vstep [] (Q.take j)).1 := fun c => hm (hiff.2 c)
        rw [vstep_new hk hm, vstep_new hk' hm']
        refine ⟨by simp only [List.length_append, ih1, List.length_singleton], fun k h1 h2 hkj hk1 => ?_⟩
        by_cases e : k = j
        · subst e
          simp only [place0_new hm, place0_new hm', ih1]
        · have ho := hold k h1 h2 (by omega) hk1
          simp only [place0_app ho.1, place0_app ho.2]
          exact ih2 k h1 h2 (by omega) hk1
    · have hk' : ¬ Q[j].kind = 1 := by rw [← hn.1]; exact hk
      rw [vstep_con hk, vstep_con hk']
      refine ⟨ih1, fun k h1 h2 hkj hk1 => ?_⟩
      by_cases e : k = j
      · subst e; exact absurd hk1 hk
      · exact ih2 k h1 h2 (by omega) hk1
theorem canon_of_alike {t u : Tt} (h : Alike (pre t) (pre u)) : canonT t = canonT u := by
  rw [canon_mapN, canon_mapN]
  obtain ⟨_, hp⟩ := alike_places h _ (Nat.le_refl _)
  have hl := h.1
  have e1 : (scan vstep [] ((pre t).take (pre t).length)).1 = varsT t := by rw [List.take_length]; rfl
  have e2 : (scan vstep [] ((pre u).take (pre t).length)).1 = varsT u := by rw [hl, List.take_length]; rfl
  rw [e1, e2] at hp
  refine (heads_inj _ _ [] [] ?_).1
  rw [List.append_nil, List.append_nil, pre_mapN, pre_mapN, List.map_map, List.map_map]
  apply List.ext_getElem
  · simpa using hl
  · intro i h1 h2
    rw [List.length_map] at h1 h2
    obtain ⟨hk, hs, ha, hn⟩ := (h.2 i).1 h1 h2
    simp only [List.getElem_map, Function.comp, headT, mapN_kind, mapN_name, mapN_args, mapN_num, List.length_map, Prod.mk.injEq]
    refine ⟨hk, ?_, hs, ha⟩
    by_cases e : (pre t)[i].kind = 1
    · rw [if_pos e, if_pos (by rw [← hk]; exact e)]
      exact hp i h1 h2 h1 e
    · rw [if_neg e, if_neg (by rw [← hk]; exact e)]
      exact hn e
theorem canon_alike (t u : Tt) : sameT (canonT t) (canonT u) = true ↔ Alike (pre t) (pre u) := by
  rw [sameT_iff]; exact ⟨alike_of_canon, canon_of_alike⟩
theorem canon_vars_len {t u : Tt} (h : canonT t = canonT u) : (varsT t).length = (varsT u).length := by
  have := congrArg (fun t => (varsT t).length) h
  simpa [canon_vars] using this
end Go.Proofs.Ytgdclchpccbifaa
