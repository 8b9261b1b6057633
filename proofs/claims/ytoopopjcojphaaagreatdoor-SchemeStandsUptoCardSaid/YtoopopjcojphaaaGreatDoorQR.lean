import Derived.Test.YtoopopjcojphaaaGreatDoorQA
import Derived.ArgAppend
import Derived.Deep.Upon
import Derived.Deep.AppendLies
import Derived.Lib.EndianMore
import Derived.Deep.MidRow
import Derived.Test.YtoopopjcojphaaaGreatDoorQQ
import Derived.Deep.LoopGhost
import Derived.Deep.CutBlock
import Derived.Deep.CutRange
/-
  A QUEUE OF THE CALL's OWN: a slice whose head is cut off and to which is appended; elements of sz cells. Nothing of the program is named here.
-/
namespace Go.Proofs.YtoopopjcojphaaaGreatDoor
open Go.ChangeShapes Go.WideShapes Go.ChangeAt Go.RowKit
theorem size_setCells_le (b : Nat) : ∀ (vs : List Value) (o : Nat) (w : World), (w.setCells b o vs).heap.size ≤ w.heap.size
  | [], _, _ => Nat.le_refl _
  | v :: r, o, w => by
    have h := size_setCells_le b r (o + 1) (w.setCell ⟨b, o, none⟩ v)
    rw [World.setCells]
    simpa using h
theorem frozen_block {w w' : World} {g o : Nat} (h : w'.heap[g]? = w.heap[g]?) : w'.frozen? ⟨g, o, none⟩ = w.frozen? ⟨g, o, none⟩ := by simp [World.frozen?, h]
/-- The slice v, in a block from base on, holds the cells xs. -/
def QAt (sz : Nat) (w : World) (base : Nat) (v : Value) (xs : List Value) : Prop :=
  ∃ g off n cap, v = .slice (some ⟨g, off, none⟩) n cap ∧ base ≤ g ∧ g < w.heap.size ∧ n ≤ cap ∧ cap ≤ maxLen ∧ (∀ j, j < cap * sz → (w.cell? ⟨g, off + j, none⟩).isSome = true ∧ w.frozen? ⟨g, off + j, none⟩ = false) ∧ xs.length = n * sz ∧ ∀ j u, xs[j]? = some u → w.cell? ⟨g, off + j, none⟩ = some u
section
variable {sz base : Nat} {w w' : World} {v : Value} {xs : List Value}
theorem QAt.kept (h : QAt sz w base v xs) (hz : w.heap.size ≤ w'.heap.size) (hk : ∀ g, v.ownBlock = some g → w'.heap[g]? = w.heap[g]?) : QAt sz w' base v xs := by
  obtain ⟨g, off, n, cap, rfl, h1, h2, h3, h4, h5, h6, h7⟩ := h
  have hg := hk g rfl
  refine ⟨g, off, n, cap, rfl, h1, by omega, h3, h4, fun j hj => ?_, h6, fun j u hu => ?_⟩
  · rw [World.cell?_of_block (a := ⟨g, off + j, none⟩) hg, frozen_block hg]; exact h5 j hj
  · rw [World.cell?_of_block (a := ⟨g, off + j, none⟩) hg]; exact h7 j u hu
theorem QAt.lt (h : QAt sz w base v xs) {g : Nat} (hg : v.ownBlock = some g) : base ≤ g ∧ g < w.heap.size := by
  obtain ⟨g', off, n, cap, rfl, h1, h2, _⟩ := h
  simp only [Value.ownBlock, Option.some.injEq] at hg
  subst hg
  exact ⟨h1, h2⟩
theorem QAt.below (h : QAt sz w base v xs) (hb : Below w.heap.size w w') : QAt sz w' base v xs := h.kept hb.size fun g hg => hb.block g (h.lt hg).2
theorem QAt.of_own {t : TypeId} {n : Nat} (hn : 0 < n) (h : w.ownsRow base t sz v n xs) : QAt sz w base v xs := by
  obtain ⟨h0, h⟩ := h
  rcases h with ⟨rfl, rfl⟩ | ⟨g, cap, cur, rfl, hb, hg, h1, h2, h3, h4⟩
  · omega
  · have hlt := (Array.getElem?_eq_some_iff.1 hg).1
    refine ⟨g, 0, n, cap, rfl, hb, hlt, h1, h2, fun j hj => ?_, h0, fun j u hu => ?_⟩
    · rw [Nat.zero_add, cell_of_row w g j _ _ _ hg]
      exact ⟨by rw [Array.getElem?_eq_getElem (by omega)]; rfl, frozen_of_row w g j _ _ hg⟩
    · rw [Nat.zero_add, cell_of_row w g j _ _ _ hg]
      rw [← h4] at hu
      rw [List.getElem?_take] at hu
      split at hu
      · simpa using hu
      · cases hu
/-- One element more. -/
theorem wpList_append_q {P : Program} {ops : Array Oper} {rest : List Oper} {o : Oper} {a : Act} {Q : Exit → Act → World → Prop}
    (hg : o.guard = none) (s x : Operand) (t : TypeId) (hop : o.op = Op.call { callee := Callee.builtin Builtin.append, args := #[s, x], argTypes := #[t, t] })
    (e : TypeId) (i : TypeInfo) (z : Value) (bytes : Nat) (h1 : P.underlying t = some (.slice e)) (h2 : P.info? e = some i) (h3 : i.zero = some z) (h4 : i.size = sz) (h5 : i.bytes = bytes) (h6 : z.cells.size = sz) (h7 : 0 < sz)
    (hq : QAt sz w base v xs) (hbase : base ≤ w.heap.size) (hs : a.eval s = v) (ad : Addr) (c : Nat) (news : List Value) (hx : a.eval x = .slice (some ad) 1 c) (hn : news.length = 1 * sz) (hc : ∀ j u, news[j]? = some u → w.cell? (ad.add j) = some u) (h1c : ∀ u ∈ news, u.oneCell' = true)
    (hmax : xs.length + sz ≤ 65536 * sz) (hby : 65536 * bytes ≤ 140737488355328)
    (hK : ∀ v' w', QAt sz w' base v' (xs ++ news) → w.heap.size ≤ w'.heap.size → (∀ k, k < w.heap.size → v.ownBlock ≠ some k → w'.heap[k]? = w.heap[k]?) → Below base w w' → (∀ g, v'.ownBlock = some g → v.ownBlock = some g ∨ w.heap.size ≤ g) → wpList P ops Q rest (a.put o.dst v') w') :
    wpList P ops Q (o :: rest) a w := by
  obtain ⟨g, off, n, cap, rfl, hgb, hgl, hnc, hcm, hthere, hlen, hat⟩ := hq
  have hn1 : n + 1 ≤ 65536 := by
    rw [hlen, ← Nat.succ_mul] at hmax
    exact Nat.le_of_mul_le_mul_right hmax h7
  have hb2 : (n + 1) * bytes ≤ 140737488355328 := Nat.le_trans (Nat.mul_le_mul_right _ hn1) hby
  refine wpList_append_arg w hg s x t hop e i z sz bytes h1 h2 h3 h4 h5 h6 h7 g off n cap xs hs hlen hat ad 1 c news hx hn hc h1c (fun hr j hj => ?_) (by unfold maxLen; omega) hb2 (fun hr => ?_) (fun hr v' w' hown hgrow => ?_)
  · have := hthere (n * sz + j) (by
      have : (n + 1) * sz ≤ cap * sz := Nat.mul_le_mul_right _ hr
      rw [Nat.add_mul] at this
      omega)
    rw [← Nat.add_assoc] at this
    exact this
  · have hsome : ∀ j, j < news.length → (w.cell? ⟨g, off + n * sz + j, none⟩).isSome = true := fun j hj => by
      have := (hthere (n * sz + j) (by
        have : (n + 1) * sz ≤ cap * sz := Nat.mul_le_mul_right _ hr
        rw [Nat.add_mul] at this
        omega)).1
      rw [← Nat.add_assoc] at this
      exact this
    have hbel : Below base w (w.setCells g (off + n * sz) news) := Lib.below_setCells_w hgb _ _ _
    have hz : (w.setCells g (off + n * sz) news).heap.size = w.heap.size := Nat.le_antisymm (size_setCells_le g news _ w) hbel.size
    refine hK _ _ ⟨g, off, n + 1, cap, rfl, hgb, by omega, hr, hcm, fun j hj => ?_, by rw [List.length_append, hlen, hn, Nat.add_mul], fun j u hu => ?_⟩ (by omega) (fun k hk hne => World.heap_setCells_other w g _ _ hk (fun e => hne (by rw [e]; rfl))) hbel (fun g' h => .inl h)
    · rw [World.frozen?_setCells]
      exact ⟨World.isSome_setCells g _ _ _ _ (hthere j hj).1, (hthere j hj).2⟩
    · by_cases hj : j < xs.length
      · rw [List.getElem?_append_left hj] at hu
        rw [World.cell?_setCells_out g _ _ _ _ (fun _ _ => .inl (by show off + j < off + n * sz; omega))]
        exact hat j u hu
      · rw [List.getElem?_append_right (by omega)] at hu
        have hjl := (List.getElem?_eq_some_iff.1 hu).1
        have := World.cell?_setCells_in g news (off + n * sz) w hsome (j - xs.length) hjl
        rw [show off + n * sz + (j - xs.length) = off + j by omega] at this
        rw [this]
        rw [List.getElem?_eq_getElem hjl] at hu
        exact hu
  · have hbw : base ≤ w.heap.size := hbase
    have hown' : w'.ownsRow base e sz v' (n + 1) (xs ++ news) := hown.mono hbw
    refine hK v' w' (QAt.of_own (by omega) hown') hgrow.size (fun k hk _ => hgrow.block k hk (by simp)) (⟨hgrow.os, hgrow.tape, hgrow.output, hgrow.size, fun k hk => hgrow.block k (by omega) (by simp)⟩) (fun g' h => .inr (hown.lt g' h).1)
end
end Go.Proofs.YtoopopjcojphaaaGreatDoor
/-
  CONTRACTS OF scheme, V: More.
-/
namespace Go.Proofs.YtoopopjcojphaaaGreatDoor
open Go.ChangeShapes Go.WideShapes Go.ChangeAt Go.RowKit
set_option linter.unusedVariables false
/-- Two types that must meet, and where they lie. -/
structure PP where
  x : Tt
  bx : Nat
  ox : Nat
  y : Tt
  by_ : Nat
  oy : Nat
def PP.cells (p : PP) : List Value := [.pointer (some ⟨p.bx, p.ox, none⟩), .pointer (some ⟨p.by_, p.oy, none⟩)]
def cellsP (L : List PP) : List Value := (L.map PP.cells).flatten
theorem cellsP_len (L : List PP) : (cellsP L).length = L.length * 2 := by
  unfold cellsP
  rw [flat_len (sz := 2) (by intro r hr; obtain ⟨p, _, rfl⟩ := List.mem_map.1 hr; rfl), List.length_map]
theorem cellsP_app (L M : List PP) : cellsP (L ++ M) = cellsP L ++ cellsP M := by unfold cellsP; rw [List.map_append, List.flatten_append]
theorem cellsP_one (p : PP) : cellsP [p] = p.cells := by simp [cellsP]
def PG (w0 : World) (p : PP) : Prop := (∃ d, TyP w0 (Lt w0.heap.size) d p.x p.bx p.ox) ∧ (∃ d, TyP w0 (Lt w0.heap.size) d p.y p.by_ p.oy) ∧ formedT p.x = true ∧ formedT p.y = true
def measP (L : List PP) : Nat := (L.map fun p => (pre p.x).length).sum
theorem measP_app (L M : List PP) : measP (L ++ M) = measP L + measP M := by simp [measP]
theorem measP_cons (p : PP) (L : List PP) : measP (p :: L) = (pre p.x).length + measP L := by simp [measP]
def MapIs (w0 : World) (σ : Sg) (f' : Int → Option Value) : Prop := ∀ n, match σ n with | none => f' n = none | some u => ∃ b o, f' n = some (.pointer (some ⟨b, o, none⟩)) ∧ ∃ d, TyP w0 (Lt w0.heap.size) d u b o
theorem MapIs.put {w0 : World} {σ : Sg} {f' : Int → Option Value} (h : MapIs w0 σ f') {n : Int} {u : Tt} {b o d : Nat} (hu : TyP w0 (Lt w0.heap.size) d u b o) : MapIs w0 (σ.put n u) (putM f' n (.pointer (some ⟨b, o, none⟩))) := fun m => by
  have hm := h m
  unfold Sg.put putM
  by_cases he : m = n
  · rw [if_pos he, if_pos he]; exact ⟨b, o, rfl, d, hu⟩
  · rw [if_neg he, if_neg he]; exact hm
/-- At the head of a round of More. -/
structure MAt (w0 : World) (mb : Nat) (va vb : Int) (ta tb : Tt) (σ : Sg) (L : List PP) (v : Value) (w : World) : Prop where
  below : Below w0.heap.size w0 w
  map : ∃ n f', n + measP L ≤ 300 ∧ ValMap Tryz.prog 3 w mb n f' ∧ MapIs w0 σ f'
  queue : QAt 2 w w0.heap.size v (cellsP L)
  apart : v.ownBlock ≠ some mb
  good : ∀ p ∈ L, PG w0 p
  iff : ∀ f, (subT va vb f ta = tb) ↔ (Ext f σ ∧ ∀ p ∈ L, subT va vb f p.x = p.y)
theorem MAt.done {w0 : World} {mb : Nat} {va vb : Int} {ta tb : Tt} {σ : Sg} {v : Value} {w : World} (h : MAt w0 mb va vb ta tb σ [] v w) (ha : rightS va ta = true) (hb : rightS vb tb = true) : moreB va ta vb tb = true := by
  rw [more_iff]
  refine ⟨ha, hb, fun n => (σ n).getD zT, (h.iff _).2 ⟨fun n u hu => by simp [hu], fun p hp => by cases hp⟩⟩
theorem MAt.stop {w0 : World} {mb : Nat} {va vb : Int} {ta tb : Tt} {σ : Sg} {p : PP} {L : List PP} {v : Value} {w : World} (h : MAt w0 mb va vb ta tb σ (p :: L) v w) (hl : loc va vb σ p.x p.y = none) : moreB va ta vb tb = false := by
  rw [Bool.eq_false_iff]
  intro hm
  obtain ⟨_, _, f, hf⟩ := more_iff.1 hm
  obtain ⟨h1, h2⟩ := (h.iff f).1 hf
  obtain ⟨_, _, hx, hy⟩ := h.good p (List.mem_cons_self ..)
  exact (loc_spec hx hy).2 hl f h1 (h2 p (List.mem_cons_self ..))
/-- The parts of two nodes, one by one. -/
def kidsP (bx ox by_ oy : Nat) (l m : List Tt) : List PP := (List.range l.length).map fun i => ⟨l.getD i zT, bx, ox + i * 4, m.getD i zT, by_, oy + i * 4⟩
theorem kidsP_len (bx ox by_ oy : Nat) (l m : List Tt) : (kidsP bx ox by_ oy l m).length = l.length := by simp [kidsP]
theorem kidsP_take (bx ox by_ oy : Nat) (l m : List Tt) (j : Nat) (hj : j < l.length) (hm : j < m.length) : (kidsP bx ox by_ oy l m).take (j + 1) = (kidsP bx ox by_ oy l m).take j ++ [⟨l[j], bx, ox + j * 4, m[j], by_, oy + j * 4⟩] := by
  rw [List.take_succ_eq_append_getElem (by rw [kidsP_len]; exact hj)]
  congr 2
  simp [kidsP, List.getD_eq_getElem?_getD, List.getElem?_eq_getElem hj, List.getElem?_eq_getElem hm]
theorem kidsP_x (bx ox by_ oy : Nat) (l m : List Tt) : (kidsP bx ox by_ oy l m).map PP.x = l := by
  apply List.ext_getElem
  · simp [kidsP]
  · intro i h1 h2
    simp [kidsP, List.getD_eq_getElem?_getD, List.getElem?_eq_getElem h2]
theorem kidsP_y (bx ox by_ oy : Nat) (l m : List Tt) (h : m.length = l.length) : (kidsP bx ox by_ oy l m).map PP.y = m := by
  apply List.ext_getElem
  · simp [kidsP, h]
  · intro i h1 h2
    simp [kidsP, List.getD_eq_getElem?_getD, List.getElem?_eq_getElem h2]
theorem measP_kids (bx ox by_ oy : Nat) (l m : List Tt) : measP (kidsP bx ox by_ oy l m) = (preL l).length := by
  have h : measP (kidsP bx ox by_ oy l m) = ((((kidsP bx ox by_ oy l m).map PP.x).map fun t => (pre t).length)).sum := by unfold measP; rw [List.map_map]; rfl
  rw [h, kidsP_x]
  clear h
  induction l with
  | nil => rfl
  | cons t r ih => simp [preL, ih]
theorem all_pairs {va vb : Int} {f : Int → Tt} : ∀ {K : List PP}, (∀ p ∈ K, subT va vb f p.x = p.y) ↔ (K.map PP.x).map (subT va vb f) = K.map PP.y
  | [] => by simp
  | p :: r => by
    have := all_pairs (va := va) (vb := vb) (f := f) (K := r)
    simp only [List.mem_cons, forall_eq_or_imp, List.map_cons, List.cons.injEq]
    rw [this]
/-- How the equation goes on behind a pair that meets. -/
theorem iff_next {va vb : Int} {ta tb : Tt} {σ σ' : Sg} {p : PP} {L K : List PP} (hl : loc va vb σ p.x p.y = some σ') (hx : formedT p.x = true) (hy : formedT p.y = true) (hkx : K.map PP.x = p.x.args) (hky : p.x.kind ≠ 1 → K.map PP.y = p.y.args)
    (h : ∀ f, (subT va vb f ta = tb) ↔ (Ext f σ ∧ ∀ q ∈ p :: L, subT va vb f q.x = q.y)) : ∀ f, (subT va vb f ta = tb) ↔ (Ext f σ' ∧ ∀ q ∈ L ++ K, subT va vb f q.x = q.y) := fun f => by
  rw [h f]
  have hs := (loc_spec (va := va) (vb := vb) hx hy).1 σ' hl f
  have hK : (∀ q ∈ K, subT va vb f q.x = q.y) ↔ (p.x.kind ≠ 1 → p.x.args.map (subT va vb f) = p.y.args) := by
    rw [all_pairs, hkx]
    by_cases hk : p.x.kind = 1
    · have hn : p.x.args = [] := by
        obtain ⟨x, _, _, _, _, _⟩ := p
        obtain ⟨k, n, s, l⟩ := x
        exact (formed_var hx hk).2.2
      have hK0 : K = [] := by
        rw [hn] at hkx
        exact List.map_eq_nil_iff.1 hkx
      subst hK0
      rw [hn]; simp [hk]
    · rw [hky hk]; simp [hk]
  have e1 : (∀ q ∈ p :: L, subT va vb f q.x = q.y) ↔ (subT va vb f p.x = p.y ∧ ∀ q ∈ L, subT va vb f q.x = q.y) := by simp
  have e2 : (∀ q ∈ L ++ K, subT va vb f q.x = q.y) ↔ ((∀ q ∈ L, subT va vb f q.x = q.y) ∧ ∀ q ∈ K, subT va vb f q.x = q.y) := by
    simp only [List.mem_append, or_imp, forall_and]
  rw [e1, e2, hK]
  constructor
  · rintro ⟨h1, h2, h3⟩
    obtain ⟨h4, h5⟩ := hs.1 ⟨h1, h2⟩
    exact ⟨h4, h3, h5⟩
  · rintro ⟨h1, h3, h5⟩
    obtain ⟨h4, h2⟩ := hs.2 ⟨h1, h5⟩
    exact ⟨h4, h2, h3⟩
/-- The queue without its head. -/
theorem QAt.tail {sz : Nat} {w : World} {base g off n cap : Nat} {x : List Value} {xs : List Value} (hx : x.length = sz) (h : QAt sz w base (.slice (some ⟨g, off, none⟩) (n + 1) cap) (x ++ xs)) : QAt sz w base (.slice (if cap = 1 then some ⟨g, off, none⟩ else some ⟨g, off + sz, none⟩) n (cap - 1)) xs := by
  obtain ⟨g', off', n', cap', hv, h1, h2, h3, h4, h5, h6, h7⟩ := h
  injection hv with ha hn hc
  simp only [Option.some.injEq, Addr.mk.injEq, and_true] at ha
  obtain ⟨rfl, rfl⟩ := ha
  subst hn; subst hc
  have hlen : xs.length = n * sz := by rw [List.length_append, hx, Nat.add_mul] at h6; omega
  by_cases hc : cap = 1
  · subst hc
    have hn0 : n = 0 := by omega
    subst hn0
    rw [if_pos rfl]
    refine ⟨g, off, 0, 0, rfl, h1, h2, Nat.le_refl _, Nat.zero_le _, fun j hj => by omega, hlen, fun j u hu => ?_⟩
    have := (List.getElem?_eq_some_iff.1 hu).1
    omega
  · rw [if_neg hc]
    refine ⟨g, off + sz, n, cap - 1, rfl, h1, h2, by omega, by omega, fun j hj => ?_, hlen, fun j u hu => ?_⟩
    · have := h5 (sz + j) (by
        have : cap * sz = (cap - 1) * sz + sz := by rw [← Nat.succ_mul]; congr 1; omega
        omega)
      rwa [← Nat.add_assoc] at this
    · have := h7 (sz + j) u (by rw [List.getElem?_append_right (by omega)]; rw [hx, Nat.add_sub_cancel_left]; exact hu)
      rwa [← Nat.add_assoc] at this
theorem zeroP (w : World) : (zeroValue 50).run Tryz.prog w = .ok (.pointer none) w := by kernel_rfl
theorem pairInfo : (Tryz.prog.info? 61).map (fun i => (i.zero, i.size, i.bytes)) = some (some (.agg #[.pointer none, .pointer none]), 2, 16) := by kernel_rfl
theorem loc_own {va vb : Int} {σ : Sg} {k n : Int} {s : ByteArray} {l : List Tt} {y : Tt} (hk : k = 1) (hn : n < va) (h : σ n = none ∨ ∃ u, σ n = some u ∧ sameT u y = true) : loc va vb σ (.mk k n s l) y = some (σ.put n y) := by
  refine (if_pos (show k = 1 ∧ n < va from ⟨hk, hn⟩)).trans ?_
  show (match σ n with | none => some (σ.put n y) | some u => if sameT u y = true then some (σ.put n y) else none) = _
  rcases h with h | ⟨u, h, hs⟩
  · rw [h]
  · rw [h]; simp [hs]
theorem loc_not {va vb : Int} {σ : Sg} {k n : Int} {s : ByteArray} {l : List Tt} {y u : Tt} (hk : k = 1) (hn : n < va) (h : σ n = some u) (hs : sameT u y = false) : loc va vb σ (.mk k n s l) y = none := by
  refine (if_pos (show k = 1 ∧ n < va from ⟨hk, hn⟩)).trans ?_
  show (match σ n with | none => some (σ.put n y) | some u => if sameT u y = true then some (σ.put n y) else none) = _
  rw [h]; simp [hs]
theorem loc_free {va vb : Int} {σ : Sg} {k n k' n' : Int} {s s' : ByteArray} {l l' : List Tt} (hk : k = 1) (hn : ¬ n < va) : loc va vb σ (.mk k n s l) (.mk k' n' s' l') = if k' = 1 ∧ vb ≤ n' ∧ n' - vb = n - va then some σ else none :=
  (if_neg (show ¬ (k = 1 ∧ n < va) from fun h => hn h.2)).trans (if_pos (show k = 1 from hk))
theorem loc_con {va vb : Int} {σ : Sg} {k n k' n' : Int} {s s' : ByteArray} {l l' : List Tt} (hk : ¬ k = 1) : loc va vb σ (.mk k n s l) (.mk k' n' s' l') = if k' = k ∧ s' = s ∧ l'.length = l.length then some σ else none :=
  (if_neg (show ¬ (k = 1 ∧ n < va) from fun h => hk h.1)).trans (if_neg (show ¬ k = 1 from hk))
theorem typ_val {w W : World} {d b o c : Nat} {k n : Int} {s : ByteArray} {l : List Tt} {A : Option Addr} (h : TyP w (Lt w.heap.size) d (.mk k n s l) b o) (hN : Node W b o (.mk k n s l) A c) (hb : Below w.heap.size w W) :
    W.rangeAt b o [.int .i64 k, .int .i64 n, .string s, .slice A l.length c] ∧ Val W (.mk k n s l) (.agg #[.int .i64 k, .int .i64 n, .string s, .slice A l.length c]) := by
  obtain ⟨_, cs, hr, hd⟩ := h.keep (Same.lt hb)
  obtain ⟨A', c', hcs, _⟩ := TyR.open_ ⟨_, hd⟩
  simp only [Tt.kind, Tt.num, Tt.name, Tt.args] at hcs
  subst hcs
  have h3 : W.cell? ⟨b, o + 3, none⟩ = some (.slice A' l.length c') := hr 3 _ rfl
  have h4 : W.cell? ⟨b, o + 3, none⟩ = some (.slice A l.length c) := hN.2.2.2
  rw [h4] at h3
  injection h3 with h3
  injection h3 with hA _ hc
  subst hA; subst hc
  exact ⟨hr, A, c, rfl, TyR.more (S := Lt w.heap.size) (fun x hx => Nat.lt_of_lt_of_le hx hb.size) ⟨d, hd⟩⟩
/-- Behind the switch, the pair's equation taken up into σ'. -/
structure TAt (w0 : World) (mb : Nat) (σ' : Sg) (L : List PP) (x : Tt) (xs : List Value) (v : Value) (w : World) : Prop where
  below : Below w0.heap.size w0 w
  map : ∃ n f', n + (measP L + (preL x.args).length) ≤ 300 ∧ ValMap Tryz.prog 3 w mb n f' ∧ MapIs w0 σ' f'
  queue : QAt 2 w w0.heap.size v xs
  apart : v.ownBlock ≠ some mb
theorem MAt.on {w0 : World} {mb : Nat} {va vb : Int} {ta tb : Tt} {σ : Sg} {p : PP} {L : List PP} {v : Value} {w w' : World} (h : MAt w0 mb va vb ta tb σ (p :: L) v w) (hb : Below w.heap.size w w') : TAt w0 mb σ L p.x (cellsP (p :: L)) v w' := by
  obtain ⟨n, f', h1, h2, h3⟩ := h.map
  refine ⟨below_then h.below hb, ⟨n, f', ?_, h2.on hb, h3⟩, h.queue.below hb, h.apart⟩
  rw [measP_cons] at h1
  have : (pre p.x).length = 1 + (preL p.x.args).length := by obtain ⟨k, n, s, l⟩ := p.x; simp [pre, Tt.args]; omega
  omega
theorem TAt.put {w0 : World} {va vb : Int} {ta tb : Tt} {σ : Sg} {k n : Int} {s : ByteArray} {l : List Tt} {bx ox by_ oy nm d : Nat} {y : Tt} {L : List PP} {v : Value} {w wz wt : World} {f' : Int → Option Value}
    (h : MAt w0 w0.heap.size va vb ta tb σ (⟨.mk k n s l, bx, ox, y, by_, oy⟩ :: L) v w) (hb : Below w.heap.size w wz) (hn : nm + measP (⟨.mk k n s l, bx, ox, y, by_, oy⟩ :: L) ≤ 300) (hm : ValMap Tryz.prog 3 wt w0.heap.size (nm + 1) (putM f' n (.pointer (some ⟨by_, oy, none⟩)))) (hg : wz.grownBy wt (some w0.heap.size)) (hi : MapIs w0 σ f') (hy : TyP w0 (Lt w0.heap.size) d y by_ oy) :
    TAt w0 w0.heap.size (σ.put n y) L (.mk k n s l) (cellsP (⟨.mk k n s l, bx, ox, y, by_, oy⟩ :: L)) v wt := by
  have hq := h.queue.below hb
  have hwz := below_then h.below hb
  refine ⟨hwz.grown hg hwz.size (fun k hk => by cases hk; exact Nat.le_refl _), ⟨nm + 1, _, ?_, hm, hi.put hy⟩, hq.kept hg.size fun g hgv => hg.block g (hq.lt hgv).2 fun e => h.apart (by rw [hgv]; exact e), h.apart⟩
  · rw [measP_cons] at hn
    have : (pre (.mk k n s l)).length = 1 + (preL l).length := by simp [pre]; omega
    have e : (⟨.mk k n s l, bx, ox, y, by_, oy⟩ : PP).x = .mk k n s l := rfl
    rw [e] at hn
    show nm + 1 + (measP L + (preL l).length) ≤ 300
    omega
theorem len_measP (L : List PP) : L.length ≤ measP L := by
  induction L with
  | nil => exact Nat.zero_le _
  | cons p r ih => rw [measP_cons]; have : 1 ≤ (pre p.x).length := by obtain ⟨k, n, s, l⟩ := p.x; simp [pre]
                   simp only [List.length_cons]; omega
theorem len_preL : ∀ l : List Tt, l.length ≤ (preL l).length
  | [] => Nat.le_refl _
  | t :: r => by
    have := len_preL r
    have h1 : 1 ≤ (pre t).length := by obtain ⟨k, n, s, l⟩ := t; simp [pre]
    simp only [preL, List.length_append, List.length_cons]; omega
def blkA (A : Option Addr) : Nat := (A.map (·.block)).getD 0
def offA (A : Option Addr) : Nat := (A.map (·.off)).getD 0
theorem MAt.next {w0 : World} {mb : Nat} {va vb : Int} {ta tb : Tt} {σ σ' : Sg} {k n k' n' : Int} {s s' : ByteArray} {l m : List Tt} {bx ox by_ oy dx dy : Nat} {L : List PP} {v v' : Value} {w w' : World} {Ax Ay : Option Addr} (h : MAt w0 mb va vb ta tb σ (⟨.mk k n s l, bx, ox, .mk k' n' s' m, by_, oy⟩ :: L) v w)
    (hl : loc va vb σ (.mk k n s l) (.mk k' n' s' m) = some σ') (hx : formedT (.mk k n s l) = true) (hy : formedT (.mk k' n' s' m) = true) (hm : k ≠ 1 → m.length = l.length) (hle : l.length ≤ m.length)
    (hkx : ∀ (i : Nat) (hi : i < l.length), ∃ b o, Ax = some ⟨b, o, none⟩ ∧ TyP w0 (Lt w0.heap.size) dx l[i] b (o + i * 4)) (hky : ∀ (i : Nat) (hi : i < m.length), ∃ b o, Ay = some ⟨b, o, none⟩ ∧ TyP w0 (Lt w0.heap.size) dy m[i] b (o + i * 4))
    (hb : Below w0.heap.size w0 w') (hmap : ∃ n f', n + (measP L + (preL l).length) ≤ 300 ∧ ValMap Tryz.prog 3 w' mb n f' ∧ MapIs w0 σ' f') (hq : QAt 2 w' w0.heap.size v' (cellsP (L ++ kidsP (blkA Ax) (offA Ax) (blkA Ay) (offA Ay) l m))) (ha : v'.ownBlock ≠ some mb) :
    MAt w0 mb va vb ta tb σ' (L ++ kidsP (blkA Ax) (offA Ax) (blkA Ay) (offA Ay) l m) v' w' := by
  obtain ⟨n1, f1, h1, h2, h3⟩ := hmap
  refine ⟨hb, ⟨n1, f1, by rw [measP_app, measP_kids]; exact h1, h2, h3⟩, hq, ha, fun p hp => ?_, iff_next (p := ⟨.mk k n s l, bx, ox, .mk k' n' s' m, by_, oy⟩) hl hx hy (kidsP_x ..) (fun hk => kidsP_y _ _ _ _ _ _ (hm hk)) h.iff⟩
  rcases List.mem_append.1 hp with hp | hp
  · exact h.good p (List.mem_cons_of_mem _ hp)
  · unfold kidsP at hp
    obtain ⟨i, hi, rfl⟩ := List.mem_map.1 hp
    have hil : i < l.length := List.mem_range.1 hi
    have him : i < m.length := by omega
    obtain ⟨b, o, rfl, hpx⟩ := hkx i hil
    obtain ⟨b', o', rfl, hpy⟩ := hky i him
    have e1 : l.getD i zT = l[i] := by simp [List.getD_eq_getElem?_getD, List.getElem?_eq_getElem hil]
    have e2 : m.getD i zT = m[i] := by simp [List.getD_eq_getElem?_getD, List.getElem?_eq_getElem him]
    refine ⟨⟨dx, ?_⟩, ⟨dy, ?_⟩, ?_, ?_⟩
    · show TyP w0 _ dx (l.getD i zT) b (o + i * 4)
      rw [e1]; exact hpx
    · show TyP w0 _ dy (m.getD i zT) b' (o' + i * 4)
      rw [e2]; exact hpy
    · show formedT (l.getD i zT) = true
      rw [e1]; exact (formed_node hx).2 _ (List.getElem_mem hil)
    · show formedT (m.getD i zT) = true
      rw [e2]; exact (formed_node hy).2 _ (List.getElem_mem him)
set_option maxRecDepth 100000 in
set_option maxHeartbeats 64000000 in
theorem smore_any {w : World} {va vb : Int} {ta tb : Tt} {xa xb : Value} (ha : SVal w va ta xa) (hb : SVal w vb tb xb) (hsa : (pre ta).length ≤ 1048576) (hsb : (pre tb).length ≤ 1048576) :
    Calls Tryz.prog 20 #[xa, xb] w fun e w' => e = .returned (.bool (moreB va ta vb tb)) ∧ Below w.heap.size w w' := by
  have HA := Lib.hid ha
  have HBv := Lib.hid hb
  have hva := ha.v64
  have hvb := hb.v64
  obtain ⟨A, c, rfl, _⟩ := ha
  obtain ⟨A', c', rfl, _⟩ := hb
  obtain ⟨k, n, s, l⟩ := ta
  obtain ⟨k', n', s', l'⟩ := tb
  simp only [Tt.kind, Tt.num, Tt.name, Tt.args] at HA HBv ⊢
  obtain ⟨w0, hw0⟩ : ∃ w0, w0 = (w.alloc (.cells #[.int .i64 va, .int .i64 k, .int .i64 n, .string s, .slice A l.length c] 28)).alloc (.cells #[.int .i64 vb, .int .i64 k', .int .i64 n', .string s', .slice A' l'.length c'] 28) := ⟨_, rfl⟩
  have hb0 : Below w.heap.size w w0 := by rw [hw0]; exact (below_new _ _).alloc (by simp) _
  have hga : w0.heap[w.heap.size]? = some (.cells #[.int .i64 va, .int .i64 k, .int .i64 n, .string s, .slice A l.length c] 28 (0, 0)) := by rw [hw0]; exact heap_alloc2_old _ _ _
  have hgb : w0.heap[w.heap.size + 1]? = some (.cells #[.int .i64 vb, .int .i64 k', .int .i64 n', .string s', .slice A' l'.length c'] 28 (0, 0)) := by rw [hw0]; exact heap_alloc2_new _ _ _
  have HA0 := Lib.hid (HA.out.on hb0)
  have HB0 := Lib.hid (HBv.out.on hb0)
  have HGA := Lib.hid hga
  have HGB := Lib.hid hgb
  have HB := Lib.hid hb0
  have HW0 := Lib.hid hw0
  have HRA := Lib.hid (fun W (h : SVal W va (.mk k n s l) (.agg #[.int .i64 va, .int .i64 k, .int .i64 n, .string s, .slice A l.length c])) => sright_val h hsa)
  have HRB := Lib.hid (fun W (h : SVal W vb (.mk k' n' s' l') (.agg #[.int .i64 vb, .int .i64 k', .int .i64 n', .string s', .slice A' l'.length c'])) => sright_val h hsb)
  clear hb0 hga hgb hw0 HA HBv hsa hsb
  cases hra : rightS va (.mk k n s l)
  case false =>
    have HR : Hid (moreB va (.mk k n s l) vb (.mk k' n' s' l') = false) := Lib.hid (by unfold moreB; rw [hra]; rfl)
    rw [hra] at HRA
    clear hra
    go_enter Tryz.func20, Tryz.ntmps20
    go_wp2
    go_step3
    go_wp2_with fail
    rw [← HW0.out]
    refine (HRA.out _ HA0.out).mono ?_
    rintro e w1 ⟨rfl, hb1⟩
    have HB1 := Lib.hid (below_then HB.out hb1)
    clear hb1
    go_wp2
    try rw [Exit.noGoto_ret]
    go_ret
    exact ⟨ret_bool HR.out.symm, HB1.out⟩
  cases hrb : rightS vb (.mk k' n' s' l')
  case false =>
    have HR : Hid (moreB va (.mk k n s l) vb (.mk k' n' s' l') = false) := Lib.hid (by unfold moreB; rw [hrb]; simp)
    rw [hra] at HRA
    rw [hrb] at HRB
    clear hra hrb
    go_enter Tryz.func20, Tryz.ntmps20
    go_wp2
    go_step3
    go_wp2_with fail
    rw [← HW0.out]
    refine (HRA.out _ HA0.out).mono ?_
    rintro e w1 ⟨rfl, hb1⟩
    have HB1 := Lib.hid (below_then HB.out hb1)
    have HG1 := Lib.hid (row_on HGB.out hb1)
    have HC1 := Lib.hid (HRB.out _ (HB0.out.on hb1))
    clear hb1
    go_wp2_with (refine wpList_load_row_yes (by kernel_rfl) 28 _ rfl (w.heap.size + 1) rfl 28 _ (0, 0) _ HG1.out Tryz.underlying28 rfl (scSize _ _ _ _ _) ?_)
    refine HC1.out.mono ?_
    rintro e w2 ⟨rfl, hb2⟩
    have HB2 := Lib.hid (below_then HB1.out hb2)
    clear hb2
    go_wp2
    try rw [Exit.noGoto_ret]
    go_ret
    exact ⟨ret_bool HR.out.symm, HB2.out⟩
  have HRA1 := Lib.hid hra
  have HRB1 := Lib.hid hrb
  rw [hra] at HRA
  rw [hrb] at HRB
  have hA := rightS_iff.1 hra
  have hB := rightS_iff.1 hrb
  have HFA := Lib.hid hA
  have HFB := Lib.hid hB
  obtain ⟨hva0, hva1, hsa, _⟩ := hA
  obtain ⟨hvb0, hvb1, _, _⟩ := hB
  have hmm := @run_makeMap Tryz.prog
  clear hra hrb
  go_enter Tryz.func20, Tryz.ntmps20
  go_wp2
  go_step3
  go_wp2_with fail
  rw [← HW0.out]
  refine (HRA.out _ HA0.out).mono ?_
  rintro e w1 ⟨rfl, hb1⟩
  have HB1 := Lib.hid hb1
  have HG1 := Lib.hid (row_on HGB.out hb1)
  have HC1 := Lib.hid (HRB.out _ (HB0.out.on hb1))
  clear hb1
  go_wp2_with (refine wpList_load_row_yes (by kernel_rfl) 28 _ rfl (w.heap.size + 1) rfl 28 _ (0, 0) _ HG1.out Tryz.underlying28 rfl (scSize _ _ _ _ _) ?_)
  refine HC1.out.mono ?_
  rintro e wB ⟨rfl, hb2⟩
  have HB2 := Lib.hid (below_then HB1.out hb2)
  have hww : Below w.heap.size w wB := below_then HB.out HB2.out
  have HWW := Lib.hid hww
  have HGA2 := Lib.hid (row_on HGA.out HB2.out)
  have HGB2 := Lib.hid (row_on HGB.out HB2.out)
  have hla := lt_of_cells HGA2.out
  have hlb := lt_of_cells HGB2.out
  have HTA := Lib.hid (HA0.out.on HB2.out)
  have HTB := Lib.hid (HB0.out.on HB2.out)
  have HM0 : Hid (ValMap Tryz.prog 3 (wB.alloc (.map #[] 0)) wB.heap.size 0 (fun _ => none)) := Lib.hid (ValMap.made _ _ wB)
  clear hb2 hww
  go_wp2
  obtain ⟨wC, hwC⟩ : ∃ wC, wC = (wB.alloc (.map #[] 0)).alloc (.cells #[.pointer (some ⟨w.heap.size, 1, none⟩), .pointer (some ⟨w.heap.size + 1, 1, none⟩)] 61) := ⟨_, rfl⟩
  have hM : MAt wB wB.heap.size va vb (.mk k n s l) (.mk k' n' s' l') (fun _ => none) [⟨.mk k n s l, w.heap.size, 1, .mk k' n' s' l', w.heap.size + 1, 1⟩] (.slice (some ⟨wB.heap.size + 1, 0, none⟩) 1 1) wC := by
    obtain ⟨_, _, hvv, ⟨da, hda⟩, _⟩ := HTA.out
    simp only [Value.agg.injEq, Array.mk.injEq, List.cons.injEq, Value.slice.injEq, and_true, true_and, Tt.kind, Tt.num, Tt.name, Tt.args] at hvv
    obtain ⟨rfl, rfl⟩ := hvv
    obtain ⟨_, _, hvv, ⟨db, hdb⟩, _⟩ := HTB.out
    simp only [Value.agg.injEq, Array.mk.injEq, List.cons.injEq, Value.slice.injEq, and_true, true_and, Tt.kind, Tt.num, Tt.name, Tt.args] at hvv
    obtain ⟨rfl, rfl⟩ := hvv
    have hnew : wC.heap[wB.heap.size + 1]? = some (.cells #[.pointer (some ⟨w.heap.size, 1, none⟩), .pointer (some ⟨w.heap.size + 1, 1, none⟩)] 61 (0, 0)) := by rw [hwC]; exact heap_alloc2_new _ _ _
    refine ⟨by rw [hwC]; exact (below_new _ _).alloc (by simp) _, ⟨0, _, ?_, ?_, fun n => rfl⟩, ?_, by simp [Value.ownBlock], ?_, ?_⟩
    · rw [measP_cons]; show 0 + ((pre (.mk k n s l)).length + 0) ≤ 300; omega
    · rw [hwC]; exact HM0.out.on (by have := below_new (wB.alloc (.map #[] 0)) (.cells #[.pointer (some ⟨w.heap.size, 1, none⟩), .pointer (some ⟨w.heap.size + 1, 1, none⟩)] 61); exact this)
    · refine ⟨wB.heap.size + 1, 0, 1, 1, rfl, by omega, lt_of_cells hnew, Nat.le_refl _, by unfold maxLen; omega, fun j hj => ?_, rfl, fun j u hu => ?_⟩
      · rw [Nat.zero_add, cell_of_row _ _ j _ _ _ hnew]
        refine ⟨?_, frozen_of_row _ _ j _ _ hnew⟩
        rcases (show j = 0 ∨ j = 1 by omega) with rfl | rfl <;> rfl
      · rw [Nat.zero_add, cell_of_row _ _ j _ _ _ hnew]
        simpa [cellsP, PP.cells] using hu
    · intro p hp
      rw [List.mem_singleton] at hp
      subst hp
      exact ⟨⟨da, hla, _, range_tail HGA2.out, hda⟩, ⟨db, hlb, _, range_tail HGB2.out, hdb⟩, HFA.out.2.2.2, HFB.out.2.2.2⟩
    · intro f
      simp [ext_nil]
  have HM := Lib.hid hM
  have HWC := Lib.hid hwC
  rw [← hwC]
  clear hM hwC
  go_step3
  go_wp2
  go_loopg [6] 300 (fun m v wr => ∃ σ L, measP L ≤ m ∧ MAt wB wB.heap.size va vb (.mk k n s l) (.mk k' n' s' l') σ L v wr)
  case atStart => exact ⟨_, _, by rw [measP_cons]; show (pre (.mk k n s l)).length + 0 ≤ 300; omega, HM.out⟩
  case round =>
    obtain ⟨σ, L, hmeas, hat⟩ := hrel
    have HAT := Lib.hid hat
    obtain ⟨g, off, nn, cap, rfl, hgb, hgl, hnc, hcm, _, hlen, hcell⟩ := hat.queue
    rw [cellsP_len] at hlen
    obtain rfl : nn = L.length := by omega
    have HBW := Lib.hid hat.below
    have HFIN := Lib.hid (below_then HWW.out hat.below)
    clear hat
    cases L with
    | nil =>
      have HR := Lib.hid (HAT.out.done HRA1.out HRB1.out)
      go_wp2
      try rw [Exit.noGoto_ret]
      go_ret
      exact ⟨ret_bool HR.out.symm, HFIN.out⟩
    | cons p L =>
      obtain ⟨x, bx, ox, y, by_, oy⟩ := p
      obtain ⟨⟨dx, hpx⟩, ⟨dy, hpy⟩, hfx, hfy⟩ := HAT.out.good _ (List.mem_cons_self ..)
      obtain ⟨kx, nx, sx, lx⟩ := x
      obtain ⟨ky, ny, sy, ly⟩ := y
      simp only at hpx hpy hfx hfy
      obtain ⟨Ax, cx, dx', rfl, hNx, hnx, hlx, hsx, hSx, hkx⟩ := hpx.node
      obtain ⟨Ay, cy, dy', rfl, hNy, hny, hly, hsy, hSy, hky⟩ := hpy.node
      simp only [Tt.num, Tt.name, Tt.args] at hnx hlx hsx hkx hny hly hsy hky
      have HC : Hid (∀ W', Below wr.heap.size wr W' → W'.cell? ⟨g, off, none⟩ = some (.pointer (some ⟨bx, ox, none⟩)) ∧ W'.cell? ⟨g, off + 1, none⟩ = some (.pointer (some ⟨by_, oy, none⟩))) := Lib.hid fun W' h => by
        have e0 : wr.cell? ⟨g, off + 0, none⟩ = some (.pointer (some ⟨bx, ox, none⟩)) := hcell 0 _ rfl
        have e1 : wr.cell? ⟨g, off + 1, none⟩ = some (.pointer (some ⟨by_, oy, none⟩)) := hcell 1 _ rfl
        exact ⟨(h.cell (p := ⟨g, off, none⟩) hgl).trans e0, (h.cell (p := ⟨g, off + 1, none⟩) hgl).trans e1⟩
      have HX : Hid (∀ W', Below wB.heap.size wB W' → Node W' bx ox (.mk kx nx sx lx) Ax cx ∧ Node W' by_ oy (.mk ky ny sy ly) Ay cy ∧ W'.cell? ⟨w.heap.size, 0, none⟩ = some (.int .i64 va) ∧ W'.cell? ⟨w.heap.size + 1, 0, none⟩ = some (.int .i64 vb)) := Lib.hid fun W' h => ⟨hNx.keep (Same.lt h) hSx, hNy.keep (Same.lt h) hSy, by rw [cell_of_row W' _ 0 _ _ _ (row_on HGA2.out h)]; rfl, by rw [cell_of_row W' _ 0 _ _ _ (row_on HGB2.out h)]; rfl⟩
      have HKX := Lib.hid (And.intro hkx hky)
      have HPX := Lib.hid (And.intro hpx hpy)
      have HFX := Lib.hid (And.intro hfx hfy)
      have hL0 : (0 : Int) < (L.length : Int) + 1 := by omega
      have HXW : Hid (∀ W', Below wr.heap.size wr W' → Below wB.heap.size wB W') := Lib.hid fun W' h => below_then HBW.out h
      clear hNx hNy hkx hky hpx hpy hfx hfy hcell hSx hSy
      have Hwr : Hid (Below wr.heap.size wr wr) := Lib.hid (Below.refl _ _)
      go_wp2
      refine wp_region_K (fun w' => Below wr.heap.size wr w') (fun j => true) (by kernel_rfl) ?_
      refine wpK_take0 (v := ?_) (a' := ?_) 0 rfl (by kernel_rfl) (by kernel_rfl) (by kernel_rfl) (by kernel_rfl) (fun _ _ _ h => h) ?_ ?_ ?_
      rotate_left 2
      · refine .inl ⟨by kernel_rfl, ?_⟩; intro wS hS; clear hS; go_simp; with_reducible rfl
      · go_simp; with_reducible rfl
      refine wpK_take0 (v := ?_) (a' := ?_) 1 rfl (by kernel_rfl) (by kernel_rfl) (by kernel_rfl) (by kernel_rfl) (fun _ _ _ h => h) ?_ ?_ ?_
      rotate_left 2
      · refine .inl ⟨by kernel_rfl, ?_⟩; intro wS hS; clear hS; go_simp; with_reducible rfl
      · go_simp; with_reducible rfl
      refine wpK_take0 (v := ?_) (a' := ?_) 2 rfl (by kernel_rfl) (by kernel_rfl) (by kernel_rfl) (by kernel_rfl) (fun _ _ _ h => h) ?_ ?_ ?_
      rotate_left 2
      · refine .inl ⟨by kernel_rfl, ?_⟩; intro wS hS; clear hS; go_simp; with_reducible rfl
      · go_simp; with_reducible rfl
      refine wpK_take (v := ?_) (a' := ?_) 3 rfl (by kernel_rfl) (by kernel_rfl) (by kernel_rfl) (by kernel_rfl) (by kernel_rfl) (fun _ _ _ h => h) (below_drew1 Hwr.out) ?_ ?_ ?_
      rotate_left 2
      · refine .inl ⟨by kernel_rfl, ?_⟩; intro wS hS; have q0 := (HC.out _ hS).1; have q1 := (HC.out _ hS).2; go_simp; with_reducible rfl
      · go_simp; with_reducible rfl
      refine wpK_take0 (v := ?_) (a' := ?_) 4 rfl (by kernel_rfl) (by kernel_rfl) (by kernel_rfl) (by kernel_rfl) (fun _ _ _ h => h) ?_ ?_ ?_
      rotate_left 2
      · refine .inl ⟨by kernel_rfl, ?_⟩; intro wS hS; clear hS; go_simp; with_reducible rfl
      · go_simp; with_reducible rfl
      refine wpK_take0 (v := ?_) (a' := ?_) 5 rfl (by kernel_rfl) (by kernel_rfl) (by kernel_rfl) (by kernel_rfl) (fun _ _ _ h => h) ?_ ?_ ?_
      rotate_left 2
      · refine .inl ⟨by kernel_rfl, ?_⟩; intro wS hS; clear hS; go_simp; with_reducible rfl
      · go_simp; with_reducible rfl
      refine wpK_take0 (v := ?_) (a' := ?_) 6 rfl (by kernel_rfl) (by kernel_rfl) (by kernel_rfl) (by kernel_rfl) (fun _ _ _ h => h) ?_ ?_ ?_
      rotate_left 2
      · refine .inl ⟨by kernel_rfl, ?_⟩; intro wS hS; clear hS; go_simp; with_reducible rfl
      · go_simp; with_reducible rfl
      refine wpK_take (v := ?_) (a' := ?_) 7 rfl (by kernel_rfl) (by kernel_rfl) (by kernel_rfl) (by kernel_rfl) (by kernel_rfl) (fun _ _ _ h => h) (below_drew1 Hwr.out) ?_ ?_ ?_
      rotate_left 2
      · refine .inl ⟨by kernel_rfl, ?_⟩; intro wS hS; have q0 := (HC.out _ hS).1; have q1 := (HC.out _ hS).2; go_simp; with_reducible rfl
      · go_simp; with_reducible rfl
      refine wpK_take0 (v := ?_) (a' := ?_) 8 rfl (by kernel_rfl) (by kernel_rfl) (by kernel_rfl) (by kernel_rfl) (fun _ _ _ h => h) ?_ ?_ ?_
      rotate_left 2
      · refine .inl ⟨by kernel_rfl, ?_⟩; intro wS hS; clear hS; go_simp; with_reducible rfl
      · go_simp; with_reducible rfl
      refine wpK_take0 (v := ?_) (a' := ?_) 9 rfl (by kernel_rfl) (by kernel_rfl) (by kernel_rfl) (by kernel_rfl) (fun _ _ _ h => h) ?_ ?_ ?_
      rotate_left 2
      · refine .inl ⟨by kernel_rfl, ?_⟩; intro wS hS; clear hS; go_simp; with_reducible rfl
      · go_simp; with_reducible rfl
      refine wpK_end (by kernel_rfl) ?_ _
      change Exit.then _ _ _ _ wr.drew
      obtain ⟨w6, hw6⟩ : ∃ x, x = wr.drew := ⟨_, rfl⟩
      rw [← hw6]
      have Hw6 : Hid (Below wr.heap.size wr w6) := Lib.hid (by rw [hw6]; exact below_drew1 Hwr.out)
      clear hw6
      have HVM := Lib.hid HAT.out.map
      have HTY : Hid (∀ W', Below wB.heap.size wB W' → W'.rangeAt by_ oy [.int .i64 ky, .int .i64 ny, .string sy, .slice Ay ly.length cy] ∧ Val W' (.mk ky ny sy ly) (.agg #[.int .i64 ky, .int .i64 ny, .string sy, .slice Ay ly.length cy])) := Lib.hid fun W' h => typ_val HPX.out.2 (HX.out W' h).2.1 h
      go_upto_block 2 with fail
      go_cut [9, 10] from 25 to 160 (fun _ _ wt => ∃ σ', loc va vb σ (.mk kx nx sx lx) (.mk ky ny sy ly) = some σ' ∧ TAt wB wB.heap.size σ' L (.mk kx nx sx lx) (cellsP (⟨.mk kx nx sx lx, bx, ox, .mk ky ny sy ly, by_, oy⟩ :: L)) (.slice (some ⟨g, off, none⟩) (L.length + 1) cap) wt ∧ (kx ≠ 1 → ly.length = lx.length) ∧ lx.length ≤ ly.length)
      case rest =>
        obtain ⟨σ', hloc, hT, hLL, hll⟩ := hcut
        obtain ⟨wt, hwt⟩ : ∃ wt, wt = wc := ⟨_, rfl⟩
        subst hwt
        have HLOC := Lib.hid hloc
        have HT := Lib.hid hT
        have HLL := Lib.hid hLL
        clear hloc hT hLL Hw6
        have hh := HX.out wt HT.out.below
        have p3 : wt.cell? ⟨bx, ox + 3, none⟩ = some (.slice Ax lx.length cx) := hh.1.2.2.2
        have p7 : wt.cell? ⟨by_, oy + 3, none⟩ = some (.slice Ay ly.length cy) := hh.2.1.2.2.2
        clear hh
        have hQT := QAt.tail (x := PP.cells ⟨.mk kx nx sx lx, bx, ox, .mk ky ny sy ly, by_, oy⟩) (xs := cellsP L) (sz := 2) rfl HT.out.queue
        have HQ1 : Hid (¬ cap = 1 → QAt 2 wt wB.heap.size (.slice (some ⟨g, off + 2, none⟩) L.length (cap - 1)) (cellsP L)) := Lib.hid fun hc => by rw [if_neg hc] at hQT; exact hQT
        have HQ2 : Hid (cap = 1 → QAt 2 wt wB.heap.size (.slice (some ⟨g, off, none⟩) L.length 0) (cellsP L)) := Lib.hid fun hc => by subst hc; exact hQT
        have hap := HT.out.apart
        have HAP : Hid (g ≠ wB.heap.size) := Lib.hid fun e => hap (by rw [e]; rfl)
        have hsmall : L.length + lx.length ≤ 300 := by
          obtain ⟨n1, f1, h1, _⟩ := HT.out.map
          have h2 := len_measP L
          have h3 := len_preL lx
          simp only [Tt.args] at h1
          omega
        clear hQT hap
        go_upto_region 13 with fail
        go_cut [6] from 25 to 160 (fun s6 wu => QAt 2 wu wB.heap.size s6 (cellsP L) ∧ s6.ownBlock ≠ some wB.heap.size ∧ wu = wt)
        case first =>
          go_wp2_with fail
          all_goals
            go_meet
            refine ⟨?_, fun e => HAP.out (by simpa [Value.ownBlock] using e), rfl⟩
            first | exact HQ2.out rfl | exact HQ2.out (by assumption) | exact HQ1.out (by assumption) | (have hh := HQ2.out (by assumption); simpa using hh)
        case rest =>
          obtain ⟨hq6, hv6, rfl⟩ := hcut
          have HQ6 := Lib.hid (And.intro hq6 hv6)
          clear hq6 hv6
          have hh := HX.out _ HT.out.below
          have p3 := hh.1.2.2.2
          have p7 := hh.2.1.2.2.2
          clear hh
          go_wp2
          go_loopw [6, 141] (fun v z wz => ∃ j : Nat, j ≤ lx.length ∧ z = .int .i64 j ∧ QAt 2 wz wB.heap.size v (cellsP (L ++ (kidsP (blkA Ax) (offA Ax) (blkA Ay) (offA Ay) lx ly).take j)) ∧ v.ownBlock ≠ some wB.heap.size ∧ (∃ n f', n + (measP L + (preL lx).length) ≤ 300 ∧ ValMap Tryz.prog 3 wz wB.heap.size n f' ∧ MapIs wB σ' f') ∧ Below wB.heap.size wB wz) (fun _ z _ => lx.length - (intOf z).toNat)
          case atStart =>
            refine ⟨0, Nat.zero_le _, by rfl, ?_, HQ6.out.2, HT.out.map, HT.out.below⟩
            rw [List.take_zero, List.append_nil]
            exact HQ6.out.1
          case round =>
            obtain ⟨j, hj, rfl, hq, hvm, hmp, hbz⟩ := hrel
            have HQ := Lib.hid (And.intro hq (And.intro hvm (And.intro hmp hbz)))
            obtain ⟨gq, oq, nq, cq, rfl, _⟩ := id hq
            clear hq hvm hmp hbz
            have HZC : Hid (∀ W', Below wB.heap.size wB W' → W'.cell? ⟨bx, ox + 3, none⟩ = some (.slice Ax lx.length cx) ∧ W'.cell? ⟨by_, oy + 3, none⟩ = some (.slice Ay ly.length cy)) := Lib.hid fun W' h => ⟨(HX.out W' h).1.2.2.2, (HX.out W' h).2.1.2.2.2⟩
            obtain ⟨z3, z7⟩ := HZC.out _ HQ.out.2.2.2
            by_cases hlt : j < lx.length
            · have hlty : j < ly.length := by omega
              obtain ⟨b1, o1, hA1, _⟩ := HKX.out.1 j hlt
              obtain ⟨b2, o2, hA2, _⟩ := HKX.out.2 j hlty
              have HKT : Hid ((kidsP (blkA Ax) (offA Ax) (blkA Ay) (offA Ay) lx ly).take (j + 1) = (kidsP (blkA Ax) (offA Ax) (blkA Ay) (offA Ay) lx ly).take j ++ [⟨lx[j], b1, o1 + j * 4, ly[j], b2, o2 + j * 4⟩]) := Lib.hid (by
                rw [kidsP_take _ _ _ _ _ _ _ hlt hlty, hA1, hA2]; rfl)
              have HA12 := Lib.hid (And.intro hA1 hA2)
              rw [hA1] at z3
              rw [hA2] at z7
              have HZC2 : Hid (∀ W', Below wB.heap.size wB W' → W'.cell? ⟨bx, ox + 3, none⟩ = some (.slice (some ⟨b1, o1, none⟩) lx.length cx) ∧ W'.cell? ⟨by_, oy + 3, none⟩ = some (.slice (some ⟨b2, o2, none⟩) ly.length cy)) := Lib.hid fun W' h => by rw [← hA1, ← hA2]; exact HZC.out W' h
              clear hA1 hA2
              go_wp2
              refine wp_region_K (fun w' => Below wr.heap.size wr w') (fun j => j != 14 && j != 15) (by kernel_rfl) ?_
              refine wpK_take0 (v := ?_) (a' := ?_) 0 rfl (by kernel_rfl) (by kernel_rfl) (by kernel_rfl) (by kernel_rfl) (fun _ _ _ h => h) ?_ ?_ ?_
              rotate_left 2
              · refine .inl ⟨by kernel_rfl, ?_⟩; intro wS hS; clear hS; go_simp; with_reducible rfl
              · go_simp; with_reducible rfl
              refine wpK_take0 (v := ?_) (a' := ?_) 1 rfl (by kernel_rfl) (by kernel_rfl) (by kernel_rfl) (by kernel_rfl) (fun _ _ _ h => h) ?_ ?_ ?_
              rotate_left 2
              · refine .inl ⟨by kernel_rfl, ?_⟩; intro wS hS; clear hS; go_simp; with_reducible rfl
              · go_simp; with_reducible rfl
              refine wpK_take0 (v := ?_) (a' := ?_) 2 rfl (by kernel_rfl) (by kernel_rfl) (by kernel_rfl) (by kernel_rfl) (fun _ _ _ h => h) ?_ ?_ ?_
              rotate_left 2
              · refine .inl ⟨by kernel_rfl, ?_⟩; intro wS hS; clear hS; go_simp; with_reducible rfl
              · go_simp; with_reducible rfl
              refine wpK_take0 (v := ?_) (a' := ?_) 3 rfl (by kernel_rfl) (by kernel_rfl) (by kernel_rfl) (by kernel_rfl) (fun _ _ _ h => h) ?_ ?_ ?_
              rotate_left 2
              · refine .inl ⟨by kernel_rfl, ?_⟩; intro wS hS; clear hS; go_simp; with_reducible rfl
              · go_simp; with_reducible rfl
              refine wpK_take (v := ?_) (a' := ?_) 4 rfl (by kernel_rfl) (by kernel_rfl) (by kernel_rfl) (by kernel_rfl) (by kernel_rfl) (fun _ _ _ h => h) (below_drew1 (Below.refl _ _)) ?_ ?_ ?_
              rotate_left 2
              · refine .inl ⟨by kernel_rfl, ?_⟩; intro wS hS; have q3 := (HZC2.out _ (below_then HQ.out.2.2.2 hS)).1; have q7 := (HZC2.out _ (below_then HQ.out.2.2.2 hS)).2; go_simp; with_reducible rfl
              · go_simp; with_reducible rfl
              refine wpK_take0 (v := ?_) (a' := ?_) 5 rfl (by kernel_rfl) (by kernel_rfl) (by kernel_rfl) (by kernel_rfl) (fun _ _ _ h => h) ?_ ?_ ?_
              rotate_left 2
              · refine .inl ⟨by kernel_rfl, ?_⟩; intro wS hS; clear hS; go_simp; with_reducible rfl
              · go_simp; with_reducible rfl
              refine wpK_take0 (v := ?_) (a' := ?_) 6 rfl (by kernel_rfl) (by kernel_rfl) (by kernel_rfl) (by kernel_rfl) (fun _ _ _ h => h) ?_ ?_ ?_
              rotate_left 2
              · refine .inl ⟨by kernel_rfl, ?_⟩; intro wS hS; clear hS; go_simp; with_reducible rfl
              · go_simp; with_reducible rfl
              refine wpK_take0 (v := ?_) (a' := ?_) 7 rfl (by kernel_rfl) (by kernel_rfl) (by kernel_rfl) (by kernel_rfl) (fun _ _ _ h => h) ?_ ?_ ?_
              rotate_left 2
              · refine .inl ⟨by kernel_rfl, ?_⟩; intro wS hS; clear hS; go_simp; with_reducible rfl
              · go_simp; with_reducible rfl
              refine wpK_take0 (v := ?_) (a' := ?_) 8 rfl (by kernel_rfl) (by kernel_rfl) (by kernel_rfl) (by kernel_rfl) (fun _ _ _ h => h) ?_ ?_ ?_
              rotate_left 2
              · refine .inl ⟨by kernel_rfl, ?_⟩; intro wS hS; clear hS; go_simp; with_reducible rfl
              · go_simp; with_reducible rfl
              refine wpK_take0 (v := ?_) (a' := ?_) 9 rfl (by kernel_rfl) (by kernel_rfl) (by kernel_rfl) (by kernel_rfl) (fun _ _ _ h => h) ?_ ?_ ?_
              rotate_left 2
              · refine .inl ⟨by kernel_rfl, ?_⟩; intro wS hS; clear hS; go_simp; with_reducible rfl
              · go_simp; with_reducible rfl
              refine wpK_take (v := ?_) (a' := ?_) 10 rfl (by kernel_rfl) (by kernel_rfl) (by kernel_rfl) (by kernel_rfl) (by kernel_rfl) (fun _ _ _ h => h) (below_drew1 (Below.refl _ _)) ?_ ?_ ?_
              rotate_left 2
              · refine .inl ⟨by kernel_rfl, ?_⟩; intro wS hS; have q3 := (HZC2.out _ (below_then HQ.out.2.2.2 hS)).1; have q7 := (HZC2.out _ (below_then HQ.out.2.2.2 hS)).2; go_simp; with_reducible rfl
              · go_simp; with_reducible rfl
              refine wpK_take0 (v := ?_) (a' := ?_) 11 rfl (by kernel_rfl) (by kernel_rfl) (by kernel_rfl) (by kernel_rfl) (fun _ _ _ h => h) ?_ ?_ ?_
              rotate_left 2
              · refine .inl ⟨by kernel_rfl, ?_⟩; intro wS hS; clear hS; go_simp; with_reducible rfl
              · go_simp; with_reducible rfl
              refine wpK_take0 (v := ?_) (a' := ?_) 12 rfl (by kernel_rfl) (by kernel_rfl) (by kernel_rfl) (by kernel_rfl) (fun _ _ _ h => h) ?_ ?_ ?_
              rotate_left 2
              · refine .inl ⟨by kernel_rfl, ?_⟩; intro wS hS; clear hS; go_simp; with_reducible rfl
              · go_simp; with_reducible rfl
              refine wpK_take0 (v := ?_) (a' := ?_) 13 rfl (by kernel_rfl) (by kernel_rfl) (by kernel_rfl) (by kernel_rfl) (fun _ _ _ h => h) ?_ ?_ ?_
              rotate_left 2
              · refine .inl ⟨by kernel_rfl, ?_⟩; intro wS hS; clear hS; go_simp; with_reducible rfl
              · go_simp; with_reducible rfl
              refine wpK_one 14 rfl (by kernel_rfl) (fun K hK => ?_)
              have HKK := Lib.hid hK
              clear hK
              go_wp2
              refine HKK.out _ _ (fun h => absurd h (by decide)) ?_
              clear HKK
              obtain ⟨wn, hwn⟩ : ∃ wn, wn = (wr.alloc (.cells #[.pointer (some ⟨b1, o1 + j * 4, none⟩), .pointer (some ⟨b2, o2 + j * 4, none⟩)] 61)).drew := ⟨_, rfl⟩
              have hbn : Below wr.heap.size wr wn := by rw [hwn]; exact below_drew1 (below_new _ _)
              have hgn : wn.heap[wr.heap.size]? = some (.cells #[.pointer (some ⟨b1, o1 + j * 4, none⟩), .pointer (some ⟨b2, o2 + j * 4, none⟩)] 61 (0, 0)) := by rw [hwn]; exact heap_alloc_new _ _
              have HN := Lib.hid (And.intro hbn hgn)
              rw [← hwn]
              clear hwn hbn hgn
              refine wpK_one 15 rfl (by kernel_rfl) (fun K hK => ?_)
              have HKK := Lib.hid hK
              clear hK
              obtain ⟨iP, hiP, hi⟩ := Option.map_eq_some_iff.1 pairInfo
              obtain ⟨hi1, hi2, hi3⟩ : iP.zero = some (.agg #[.pointer none, .pointer none]) ∧ iP.size = 2 ∧ iP.bytes = 16 := by simpa using hi
              have HWL : Hid (wB.heap.size ≤ wr.heap.size) := Lib.hid HQ.out.2.2.2.size
              refine wpList_append_q (sz := 2) (base := wB.heap.size) rfl (.tmp 144) (.tmp 158) 62 rfl 61 iP _ 16 (by kernel_rfl) hiP hi1 hi2 hi3 rfl (by omega) (HQ.out.1.below HN.out.1) (Nat.le_trans HWL.out HN.out.1.size) rfl ⟨wr.heap.size, 0, none⟩ 1 (PP.cells ⟨lx[j], b1, o1 + j * 4, ly[j], b2, o2 + j * 4⟩) rfl rfl ?_ ?_ ?_ (by omega) ?_
              · intro q u hu
                have hcq := cell_of_row wn wr.heap.size q _ _ _ HN.out.2
                rw [show ((⟨wr.heap.size, 0, none⟩ : Addr).add q) = ⟨wr.heap.size, q, none⟩ by simp [Addr.add]; try omega, hcq]
                simpa [PP.cells] using hu
              · intro u hu
                rcases List.mem_cons.1 hu with rfl | hu
                · rfl
                · obtain rfl := List.mem_singleton.1 hu
                  rfl
              · rw [cellsP_len, List.length_append, List.length_take]
                omega
              · intro v' wp hq' hz' hk' hb' ho'
                refine HKK.out _ _ (fun h => absurd h (by decide)) ?_
                have HR : Hid (QAt 2 wp wB.heap.size v' (cellsP (L ++ (kidsP (blkA Ax) (offA Ax) (blkA Ay) (offA Ay) lx ly).take (j + 1))) ∧ v'.ownBlock ≠ some wB.heap.size ∧ (∃ n f', n + (measP L + (preL lx).length) ≤ 300 ∧ ValMap Tryz.prog 3 wp wB.heap.size n f' ∧ MapIs wB σ' f') ∧ Below wB.heap.size wB wp) := Lib.hid (by
                  obtain ⟨hq0, hv0, ⟨n0, f0, hn0, hm0, hi0⟩, hb0⟩ := HQ.out
                  have hmt : wB.heap.size < wr.heap.size := hm0.lt
                  refine ⟨?_, fun e => ?_, ⟨n0, f0, hn0, ?_, hi0⟩, (below_then hb0 HN.out.1).trans hb'⟩
                  · rw [HKT.out, ← List.append_assoc, cellsP_app, cellsP_one]; exact hq'
                  · rcases ho' _ e with h | h
                    · exact hv0 h
                    · have := HN.out.1.size; omega
                  · refine (hm0.on HN.out.1).block (hk' _ (by have := HN.out.1.size; omega) hv0))
                clear HKK hq' hz' hk' hb' ho' hiP hi hi1 hi2 hi3
                refine wpK_take0 (v := ?_) (a' := ?_) 16 rfl (by kernel_rfl) (by kernel_rfl) (by kernel_rfl) (by kernel_rfl) (fun _ _ _ h => h) ?_ ?_ ?_
                rotate_left 2
                · refine .inl ⟨by kernel_rfl, ?_⟩; intro wS hS; clear hS; go_simp; with_reducible rfl
                · go_simp; with_reducible rfl
                refine wpK_end (by kernel_rfl) ?_ _
                go_wp2
                go_roundw
                case rel => exact ⟨j + 1, by omega, by go_num, HR.out.1, HR.out.2.1, HR.out.2.2.1, HR.out.2.2.2⟩
                case measure => simp [intOf]; omega
            · obtain rfl : j = lx.length := by omega
              go_wp2
              go_roundg (measP L + (preL lx).length)
              case measure =>
                have hh := hmeas
                rw [measP_cons] at hh
                have : (pre (.mk kx nx sx lx)).length = 1 + (preL lx).length := by simp [pre]; omega
                have e : (⟨.mk kx nx sx lx, bx, ox, .mk ky ny sy ly, by_, oy⟩ : PP).x = .mk kx nx sx lx := rfl
                rw [e] at hh
                omega
              case rel =>
                refine ⟨σ', L ++ kidsP (blkA Ax) (offA Ax) (blkA Ay) (offA Ay) lx ly, by rw [measP_app, measP_kids]; exact Nat.le_refl _, HAT.out.next HLOC.out HFX.out.1 HFX.out.2 HLL.out hll HKX.out.1 HKX.out.2 HQ.out.2.2.2 HQ.out.2.2.1 ?_ HQ.out.2.1⟩
                have hh := HQ.out.1
                rw [List.take_of_length_le (by rw [kidsP_len]; exact Nat.le_refl _)] at hh
                exact hh

      go_wp2
      by_cases hkx : kx = 1
      · have e1 : (kx == 1) = true := by simpa using hkx
        have HK1 := Lib.hid hkx
        have hlx0 : lx = [] := (formed_var HFX.out.1 HK1.out).2.2
        have hll : lx.length ≤ ly.length := by rw [hlx0]; exact Nat.zero_le _
        have HLL : Hid (kx ≠ 1 → ly.length = lx.length) := Lib.hid fun h => absurd HK1.out h
        clear hkx hlx0
        by_cases hnv : nx < va
        · have HNV := Lib.hid hnv
          refine wp_region_K (fun w' => Below wr.heap.size wr w') (fun j => true) (by kernel_rfl) ?_
          refine wpK_take0 (v := ?_) (a' := ?_) 0 rfl (by kernel_rfl) (by kernel_rfl) (by kernel_rfl) (by kernel_rfl) (fun _ _ _ h => h) ?_ ?_ ?_
          rotate_left 2
          · refine .inl ⟨by kernel_rfl, ?_⟩; intro wS hS; clear hS; go_simp; with_reducible rfl
          · go_simp; with_reducible rfl
          refine wpK_take0 (v := ?_) (a' := ?_) 1 rfl (by kernel_rfl) (by kernel_rfl) (by kernel_rfl) (by kernel_rfl) (fun _ _ _ h => h) ?_ ?_ ?_
          rotate_left 2
          · refine .inl ⟨by kernel_rfl, ?_⟩; intro wS hS; clear hS; go_simp; with_reducible rfl
          · go_simp; with_reducible rfl
          refine wpK_take0 (v := ?_) (a' := ?_) 2 rfl (by kernel_rfl) (by kernel_rfl) (by kernel_rfl) (by kernel_rfl) (fun _ _ _ h => h) ?_ ?_ ?_
          rotate_left 2
          · refine .inl ⟨by kernel_rfl, ?_⟩; intro wS hS; clear hS; go_simp; with_reducible rfl
          · go_simp; with_reducible rfl
          refine wpK_take (v := ?_) (a' := ?_) 3 rfl (by kernel_rfl) (by kernel_rfl) (by kernel_rfl) (by kernel_rfl) (by kernel_rfl) (fun _ _ _ h => h) (below_drew1 Hw6.out) ?_ ?_ ?_
          rotate_left 2
          · refine .inl ⟨by kernel_rfl, ?_⟩; intro wS hS; have hh := HX.out _ (HXW.out _ hS); have q0 : wS.cell? ⟨bx, ox, none⟩ = some (.int .i64 kx) := hh.1.1; have q1 : wS.cell? ⟨bx, ox + 1, none⟩ = some (.int .i64 nx) := hh.1.2.1; have q2 := hh.2.2.1; have q3 : wS.cell? ⟨bx, ox + 2, none⟩ = some (.string sx) := hh.1.2.2.1; have q4 : wS.cell? ⟨bx, ox + 3, none⟩ = some (.slice Ax lx.length cx) := hh.1.2.2.2; have r0 : wS.cell? ⟨by_, oy, none⟩ = some (.int .i64 ky) := hh.2.1.1; have r1 : wS.cell? ⟨by_, oy + 1, none⟩ = some (.int .i64 ny) := hh.2.1.2.1; have r3 : wS.cell? ⟨by_, oy + 2, none⟩ = some (.string sy) := hh.2.1.2.2.1; have r4 : wS.cell? ⟨by_, oy + 3, none⟩ = some (.slice Ay ly.length cy) := hh.2.1.2.2.2; have r2 := hh.2.2.2; clear hh; go_simp; with_reducible rfl
          · go_simp; with_reducible rfl
          refine wpK_take0 (v := ?_) (a' := ?_) 4 rfl (by kernel_rfl) (by kernel_rfl) (by kernel_rfl) (by kernel_rfl) (fun _ _ _ h => h) ?_ ?_ ?_
          rotate_left 2
          · refine .inl ⟨by kernel_rfl, ?_⟩; intro wS hS; clear hS; go_simp; with_reducible rfl
          · go_simp; with_reducible rfl
          refine wpK_take0 (v := ?_) (a' := ?_) 5 rfl (by kernel_rfl) (by kernel_rfl) (by kernel_rfl) (by kernel_rfl) (fun _ _ _ h => h) ?_ ?_ ?_
          rotate_left 2
          · refine .inl ⟨by kernel_rfl, ?_⟩; intro wS hS; clear hS; go_simp; with_reducible rfl
          · go_simp; with_reducible rfl
          refine wpK_take0 (v := ?_) (a' := ?_) 6 rfl (by kernel_rfl) (by kernel_rfl) (by kernel_rfl) (by kernel_rfl) (fun _ _ _ h => h) ?_ ?_ ?_
          rotate_left 2
          · refine .inl ⟨by kernel_rfl, ?_⟩; intro wS hS; clear hS; go_simp; with_reducible rfl
          · go_simp; with_reducible rfl
          refine wpK_take0 (v := ?_) (a' := ?_) 7 rfl (by kernel_rfl) (by kernel_rfl) (by kernel_rfl) (by kernel_rfl) (fun _ _ _ h => h) ?_ ?_ ?_
          rotate_left 2
          · refine .inl ⟨by kernel_rfl, ?_⟩; intro wS hS; clear hS; go_simp; with_reducible rfl
          · go_simp; with_reducible rfl
          refine wpK_take0 (v := ?_) (a' := ?_) 8 rfl (by kernel_rfl) (by kernel_rfl) (by kernel_rfl) (by kernel_rfl) (fun _ _ _ h => h) ?_ ?_ ?_
          rotate_left 2
          · refine .inl ⟨by kernel_rfl, ?_⟩; intro wS hS; clear hS; go_simp; with_reducible rfl
          · go_simp; with_reducible rfl
          refine wpK_take (v := ?_) (a' := ?_) 9 rfl (by kernel_rfl) (by kernel_rfl) (by kernel_rfl) (by kernel_rfl) (by kernel_rfl) (fun _ _ _ h => h) (below_drew1 Hw6.out) ?_ ?_ ?_
          rotate_left 2
          · refine .inl ⟨by kernel_rfl, ?_⟩; intro wS hS; have hh := HX.out _ (HXW.out _ hS); have q0 : wS.cell? ⟨bx, ox, none⟩ = some (.int .i64 kx) := hh.1.1; have q1 : wS.cell? ⟨bx, ox + 1, none⟩ = some (.int .i64 nx) := hh.1.2.1; have q2 := hh.2.2.1; have q3 : wS.cell? ⟨bx, ox + 2, none⟩ = some (.string sx) := hh.1.2.2.1; have q4 : wS.cell? ⟨bx, ox + 3, none⟩ = some (.slice Ax lx.length cx) := hh.1.2.2.2; have r0 : wS.cell? ⟨by_, oy, none⟩ = some (.int .i64 ky) := hh.2.1.1; have r1 : wS.cell? ⟨by_, oy + 1, none⟩ = some (.int .i64 ny) := hh.2.1.2.1; have r3 : wS.cell? ⟨by_, oy + 2, none⟩ = some (.string sy) := hh.2.1.2.2.1; have r4 : wS.cell? ⟨by_, oy + 3, none⟩ = some (.slice Ay ly.length cy) := hh.2.1.2.2.2; have r2 := hh.2.2.2; clear hh; go_simp; with_reducible rfl
          · go_simp; with_reducible rfl
          refine wpK_take0 (v := ?_) (a' := ?_) 10 rfl (by kernel_rfl) (by kernel_rfl) (by kernel_rfl) (by kernel_rfl) (fun _ _ _ h => h) ?_ ?_ ?_
          rotate_left 2
          · refine .inl ⟨by kernel_rfl, ?_⟩; intro wS hS; clear hS; go_simp; with_reducible rfl
          · go_simp; with_reducible rfl
          refine wpK_take (v := ?_) (a' := ?_) 11 rfl (by kernel_rfl) (by kernel_rfl) (by kernel_rfl) (by kernel_rfl) (by kernel_rfl) (fun _ _ _ h => h) (below_drew1 Hw6.out) ?_ ?_ ?_
          rotate_left 2
          · refine .inl ⟨by kernel_rfl, ?_⟩; intro wS hS; have hh := HX.out _ (HXW.out _ hS); have q0 : wS.cell? ⟨bx, ox, none⟩ = some (.int .i64 kx) := hh.1.1; have q1 : wS.cell? ⟨bx, ox + 1, none⟩ = some (.int .i64 nx) := hh.1.2.1; have q2 := hh.2.2.1; have q3 : wS.cell? ⟨bx, ox + 2, none⟩ = some (.string sx) := hh.1.2.2.1; have q4 : wS.cell? ⟨bx, ox + 3, none⟩ = some (.slice Ax lx.length cx) := hh.1.2.2.2; have r0 : wS.cell? ⟨by_, oy, none⟩ = some (.int .i64 ky) := hh.2.1.1; have r1 : wS.cell? ⟨by_, oy + 1, none⟩ = some (.int .i64 ny) := hh.2.1.2.1; have r3 : wS.cell? ⟨by_, oy + 2, none⟩ = some (.string sy) := hh.2.1.2.2.1; have r4 : wS.cell? ⟨by_, oy + 3, none⟩ = some (.slice Ay ly.length cy) := hh.2.1.2.2.2; have r2 := hh.2.2.2; clear hh; go_simp; with_reducible rfl
          · go_simp; with_reducible rfl
          refine wpK_take0 (v := ?_) (a' := ?_) 12 rfl (by kernel_rfl) (by kernel_rfl) (by kernel_rfl) (by kernel_rfl) (fun _ _ _ h => h) ?_ ?_ ?_
          rotate_left 2
          · refine .inl ⟨by kernel_rfl, ?_⟩; intro wS hS; clear hS; go_simp; with_reducible rfl
          · go_simp; with_reducible rfl
          refine wpK_take0 (v := ?_) (a' := ?_) 13 rfl (by kernel_rfl) (by kernel_rfl) (by kernel_rfl) (by kernel_rfl) (fun _ _ _ h => h) ?_ ?_ ?_
          rotate_left 2
          · refine .inl ⟨by kernel_rfl, ?_⟩; intro wS hS; clear hS; go_simp; with_reducible rfl
          · go_simp; with_reducible rfl
          refine wpK_take0 (v := ?_) (a' := ?_) 14 rfl (by kernel_rfl) (by kernel_rfl) (by kernel_rfl) (by kernel_rfl) (fun _ _ _ h => h) ?_ ?_ ?_
          rotate_left 2
          · refine .inl ⟨by kernel_rfl, ?_⟩; intro wS hS; clear hS; go_simp; with_reducible rfl
          · go_simp; with_reducible rfl
          refine wpK_end (by kernel_rfl) ?_ _
          change Exit.then _ _ _ _ w6.drew
          obtain ⟨w7, hw7⟩ : ∃ x, x = w6.drew := ⟨_, rfl⟩
          rw [← hw7]
          have Hw7 : Hid (Below wr.heap.size wr w7) := Lib.hid (by rw [hw7]; exact below_drew1 Hw6.out)
          clear hw7
          obtain ⟨nm, f', hnm, hvm, hmi⟩ := HVM.out
          have HMI := Lib.hid (And.intro hnm (And.intro hvm hmi))
          clear hnm hvm hmi
          cases hsg : σ nx with
          | none =>
            have HSG := Lib.hid hsg
            clear hsg
            have HLOC : Hid (loc va vb σ (.mk kx nx sx lx) (.mk ky ny sy ly) = some (σ.put nx (.mk ky ny sy ly))) := Lib.hid (loc_own HK1.out HNV.out (.inl HSG.out))
            have q5 : (Instr.lookup 59 (.map (some wB.heap.size)) (.int .i64 nx) true).run Tryz.prog w7 = .ok (.tuple #[.pointer none, .bool false]) w7 := by
              have h1 := (HMI.out.2.1.on Hw7.out).look_ok Tryz.underlying3 Tryz.underlying59 (zeroP w7) hnx
              have h2 := HMI.out.2.2 nx
              rw [HSG.out] at h2
              rw [h1, h2]; rfl
            have hh := HX.out w7 (HXW.out _ Hw7.out)
            have p1 : w7.cell? ⟨bx, ox + 1, none⟩ = some (.int .i64 nx) := hh.1.2.1
            have p3 : w7.cell? ⟨bx, ox + 3, none⟩ = some (.slice Ax lx.length cx) := hh.1.2.2.2
            have p7 : w7.cell? ⟨by_, oy + 3, none⟩ = some (.slice Ay ly.length cy) := hh.2.1.2.2.2
            clear hh
            go_wp2
            clear q5 p1 p3 p7
            refine wp_region_K (fun w' => Below wr.heap.size wr w') (fun j => true) (by kernel_rfl) ?_
            refine wpK_take0 (v := ?_) (a' := ?_) 0 rfl (by kernel_rfl) (by kernel_rfl) (by kernel_rfl) (by kernel_rfl) (fun _ _ _ h => h) ?_ ?_ ?_
            rotate_left 2
            · refine .inl ⟨by kernel_rfl, ?_⟩; intro wS hS; clear hS; go_simp; with_reducible rfl
            · go_simp; with_reducible rfl
            refine wpK_take0 (v := ?_) (a' := ?_) 1 rfl (by kernel_rfl) (by kernel_rfl) (by kernel_rfl) (by kernel_rfl) (fun _ _ _ h => h) ?_ ?_ ?_
            rotate_left 2
            · refine .inl ⟨by kernel_rfl, ?_⟩; intro wS hS; clear hS; go_simp; with_reducible rfl
            · go_simp; with_reducible rfl
            refine wpK_take0 (v := undef) (a' := ?_) 2 rfl (by kernel_rfl) (by kernel_rfl) (by kernel_rfl) (by kernel_rfl) (fun _ _ _ h => h) ?_ ?_ ?_
            rotate_left 1
            · exact .inr ⟨by kernel_rfl, rfl⟩
            · go_simp; with_reducible rfl
            refine wpK_take0 (v := undef) (a' := ?_) 3 rfl (by kernel_rfl) (by kernel_rfl) (by kernel_rfl) (by kernel_rfl) (fun _ _ _ h => h) ?_ ?_ ?_
            rotate_left 1
            · exact .inr ⟨by kernel_rfl, rfl⟩
            · go_simp; with_reducible rfl
            refine wpK_take0 (v := undef) (a' := ?_) 4 rfl (by kernel_rfl) (by kernel_rfl) (by kernel_rfl) (by kernel_rfl) (fun _ _ _ h => h) ?_ ?_ ?_
            rotate_left 1
            · exact .inr ⟨by kernel_rfl, rfl⟩
            · go_simp; with_reducible rfl
            refine wpK_take0 (v := undef) (a' := ?_) 5 rfl (by kernel_rfl) (by kernel_rfl) (by kernel_rfl) (by kernel_rfl) (fun _ _ _ h => h) ?_ ?_ ?_
            rotate_left 1
            · exact .inr ⟨by kernel_rfl, rfl⟩
            · go_simp; with_reducible rfl
            refine wpK_take0 (v := undef) (a' := ?_) 6 rfl (by kernel_rfl) (by kernel_rfl) (by kernel_rfl) (by kernel_rfl) (fun _ _ _ h => h) ?_ ?_ ?_
            rotate_left 1
            · exact .inr ⟨by kernel_rfl, rfl⟩
            · go_simp; with_reducible rfl
            refine wpK_take0 (v := undef) (a' := ?_) 7 rfl (by kernel_rfl) (by kernel_rfl) (by kernel_rfl) (by kernel_rfl) (fun _ _ _ h => h) ?_ ?_ ?_
            rotate_left 1
            · exact .inr ⟨by kernel_rfl, rfl⟩
            · go_simp; with_reducible rfl
            refine wpK_take0 (v := undef) (a' := ?_) 8 rfl (by kernel_rfl) (by kernel_rfl) (by kernel_rfl) (by kernel_rfl) (fun _ _ _ h => h) ?_ ?_ ?_
            rotate_left 1
            · exact .inr ⟨by kernel_rfl, rfl⟩
            · go_simp; with_reducible rfl
            refine wpK_take0 (v := undef) (a' := ?_) 9 rfl (by kernel_rfl) (by kernel_rfl) (by kernel_rfl) (by kernel_rfl) (fun _ _ _ h => h) ?_ ?_ ?_
            rotate_left 1
            · exact .inr ⟨by kernel_rfl, rfl⟩
            · go_simp; with_reducible rfl
            refine wpK_take0 (v := ?_) (a' := ?_) 10 rfl (by kernel_rfl) (by kernel_rfl) (by kernel_rfl) (by kernel_rfl) (fun _ _ _ h => h) ?_ ?_ ?_
            rotate_left 2
            · refine .inl ⟨by kernel_rfl, ?_⟩; intro wS hS; clear hS; go_simp; with_reducible rfl
            · go_simp; with_reducible rfl
            refine wpK_end (by kernel_rfl) ?_ _
            change Exit.then _ _ _ _ w7.drew
            obtain ⟨w9, hw9⟩ : ∃ x, x = w7.drew := ⟨_, rfl⟩
            rw [← hw9]
            have Hw9 : Hid (Below wr.heap.size wr w9) := Lib.hid (by rw [hw9]; exact below_drew1 Hw7.out)
            clear hw9
            have HBM := Lib.hid Hw9.out
            have hh := HX.out w9 (HXW.out _ Hw9.out)
            have p1 : w9.cell? ⟨bx, ox + 1, none⟩ = some (.int .i64 nx) := hh.1.2.1
            have p3 : w9.cell? ⟨bx, ox + 3, none⟩ = some (.slice Ax lx.length cx) := hh.1.2.2.2
            have p7 : w9.cell? ⟨by_, oy + 3, none⟩ = some (.slice Ay ly.length cy) := hh.2.1.2.2.2
            clear hh
            obtain ⟨D, hD1, hD2, hD3⟩ := HMI.out.2.1.on HBM.out
            have HD := Lib.hid (And.intro hD1 (And.intro hD2 hD3))
            have hnmb := HMI.out.1
            clear hD1 hD2 hD3
            go_wp2_with (refine wpList_mapUpdate_own _ rfl _ _ _ 59 rfl 3 50 (Maps.int_keyed Tryz.underlying3) Tryz.underlying59 heldElem wB.heap.size nm D rfl HD.out.1 (by unfold maxLen; omega) (.int .i64 nx) (.pointer (some ⟨by_, oy, none⟩)) (.int .i64 nx) rfl rfl (Maps.keyOf_int_mk Tryz.underlying3 (wf64 hnx)) _ [] rfl ?_)
            intro wt hown1 hg1
            have HT : Hid (TAt wB wB.heap.size (σ.put nx (.mk ky ny sy ly)) L (.mk kx nx sx lx) (cellsP (⟨.mk kx nx sx lx, bx, ox, .mk ky ny sy ly, by_, oy⟩ :: L)) (.slice (some ⟨g, off, none⟩) (L.length + 1) cap) wt) := Lib.hid (TAt.put HAT.out HBM.out hnmb (ValMap.next HD.out.2.1 HD.out.2.2 hown1) hg1 HMI.out.2.2 HPX.out.2)
            clear hown1 hg1 hnmb
            go_wp2_with fail
            go_meet
            exact ⟨_, HLOC.out, HT.out, HLL.out, hll⟩
          | some u =>
            have HSG := Lib.hid hsg
            clear hsg
            have hh := HMI.out.2.2 nx
            rw [HSG.out] at hh
            obtain ⟨bu, ou, hfu, du, hpu⟩ := hh
            have HFU := Lib.hid hfu
            obtain ⟨ku, nu, su, lu⟩ := u
            have HPU := Lib.hid hpu
            obtain ⟨Au, cu, du', rfl, hNu, hnu, hlu, hsu, hSu, hku⟩ := hpu.node
            simp only [Tt.num, Tt.name, Tt.args] at hnu hlu hsu hku
            have HTU : Hid (∀ W', Below wB.heap.size wB W' → W'.rangeAt bu ou [.int .i64 ku, .int .i64 nu, .string su, .slice Au lu.length cu] ∧ Val W' (.mk ku nu su lu) (.agg #[.int .i64 ku, .int .i64 nu, .string su, .slice Au lu.length cu])) := Lib.hid fun W' h => typ_val HPU.out (hNu.keep (Same.lt h) hSu) h
            clear hfu hNu hku hSu
            have q5 : (Instr.lookup 59 (.map (some wB.heap.size)) (.int .i64 nx) true).run Tryz.prog w7 = .ok (.tuple #[.pointer (some ⟨bu, ou, none⟩), .bool true]) w7 := by
              have h1 := (HMI.out.2.1.on Hw7.out).look_ok Tryz.underlying3 Tryz.underlying59 (zeroP w7) hnx
              rw [h1, HFU.out]; rfl
            have hh := HX.out w7 (HXW.out _ Hw7.out)
            have p1 : w7.cell? ⟨bx, ox + 1, none⟩ = some (.int .i64 nx) := hh.1.2.1
            have p3 : w7.cell? ⟨bx, ox + 3, none⟩ = some (.slice Ax lx.length cx) := hh.1.2.2.2
            have p7 : w7.cell? ⟨by_, oy + 3, none⟩ = some (.slice Ay ly.length cy) := hh.2.1.2.2.2
            clear hh
            by_cases hsm : sameT (.mk ku nu su lu) (.mk ky ny sy ly) = true
            · have HSM := Lib.hid hsm
              clear hsm
              have HLOC : Hid (loc va vb σ (.mk kx nx sx lx) (.mk ky ny sy ly) = some (σ.put nx (.mk ky ny sy ly))) := Lib.hid (loc_own HK1.out HNV.out (.inr ⟨_, HSG.out, HSM.out⟩))
              go_wp2
              clear q5 p1 p3 p7
              refine wp_region_K (fun w' => Below wr.heap.size wr w') (fun j => true) (by kernel_rfl) ?_
              refine wpK_take0 (v := ?_) (a' := ?_) 0 rfl (by kernel_rfl) (by kernel_rfl) (by kernel_rfl) (by kernel_rfl) (fun _ _ _ h => h) ?_ ?_ ?_
              rotate_left 2
              · refine .inl ⟨by kernel_rfl, ?_⟩; intro wS hS; clear hS; go_simp; with_reducible rfl
              · go_simp; with_reducible rfl
              refine wpK_take0 (v := ?_) (a' := ?_) 1 rfl (by kernel_rfl) (by kernel_rfl) (by kernel_rfl) (by kernel_rfl) (fun _ _ _ h => h) ?_ ?_ ?_
              rotate_left 2
              · refine .inl ⟨by kernel_rfl, ?_⟩; intro wS hS; clear hS; go_simp; with_reducible rfl
              · go_simp; with_reducible rfl
              refine wpK_take0 (v := ?_) (a' := ?_) 2 rfl (by kernel_rfl) (by kernel_rfl) (by kernel_rfl) (by kernel_rfl) (fun _ _ _ h => h) ?_ ?_ ?_
              rotate_left 2
              · refine .inl ⟨by kernel_rfl, ?_⟩; intro wS hS; clear hS; go_simp; with_reducible rfl
              · go_simp; with_reducible rfl
              refine wpK_take0 (v := ?_) (a' := ?_) 3 rfl (by kernel_rfl) (by kernel_rfl) (by kernel_rfl) (by kernel_rfl) (fun _ _ _ h => h) ?_ ?_ ?_
              rotate_left 2
              · refine .inl ⟨by kernel_rfl, ?_⟩; intro wS hS; clear hS; go_simp; with_reducible rfl
              · go_simp; with_reducible rfl
              refine wpK_take (v := (.agg #[.int .i64 ku, .int .i64 nu, .string su, .slice Au lu.length cu])) (a' := ?_) 4 rfl (by kernel_rfl) (by kernel_rfl) (by kernel_rfl) (by kernel_rfl) (by kernel_rfl) (fun _ _ _ h => h) (below_drew1 Hw7.out) ?_ ?_ ?_
              rotate_left 1
              · exact yieldsIf_load_mid (by kernel_rfl) 25 (.tmp 63) rfl bu ou (by go_simp) _ _ (fun wS hS => (HTU.out _ (HXW.out _ hS)).1) Tryz.underlying25 rfl (tySize _ _ _ _)
              · go_simp; with_reducible rfl
              refine wpK_take0 (v := ?_) (a' := ?_) 5 rfl (by kernel_rfl) (by kernel_rfl) (by kernel_rfl) (by kernel_rfl) (fun _ _ _ h => h) ?_ ?_ ?_
              rotate_left 2
              · refine .inl ⟨by kernel_rfl, ?_⟩; intro wS hS; clear hS; go_simp; with_reducible rfl
              · go_simp; with_reducible rfl
              refine wpK_take0 (v := ?_) (a' := ?_) 6 rfl (by kernel_rfl) (by kernel_rfl) (by kernel_rfl) (by kernel_rfl) (fun _ _ _ h => h) ?_ ?_ ?_
              rotate_left 2
              · refine .inl ⟨by kernel_rfl, ?_⟩; intro wS hS; clear hS; go_simp; with_reducible rfl
              · go_simp; with_reducible rfl
              refine wpK_take (v := (.agg #[.int .i64 ky, .int .i64 ny, .string sy, .slice Ay ly.length cy])) (a' := ?_) 7 rfl (by kernel_rfl) (by kernel_rfl) (by kernel_rfl) (by kernel_rfl) (by kernel_rfl) (fun _ _ _ h => h) (below_drew1 Hw7.out) ?_ ?_ ?_
              rotate_left 1
              · exact yieldsIf_load_mid (by kernel_rfl) 25 (.tmp 66) rfl by_ oy (by go_simp) _ _ (fun wS hS => (HTY.out _ (HXW.out _ hS)).1) Tryz.underlying25 rfl (tySize _ _ _ _)
              · go_simp; with_reducible rfl
              refine wpK_one 8 rfl (by kernel_rfl) (fun K hK => ?_)
              have HKK := Lib.hid hK
              clear hK
              go_wp2_with fail
              refine (same_val (HTU.out _ (HXW.out _ (by first | exact Hw7.out | exact below_drew1 Hw7.out))).2 (HTY.out _ (HXW.out _ (by first | exact Hw7.out | exact below_drew1 Hw7.out))).2).mono ?_
              rintro e wS ⟨he, hbS⟩
              rw [HSM.out] at he
              subst he
              have HwS : Hid (Below wr.heap.size wr wS) := Lib.hid (by first | exact Hw7.out.trans (hbS.mono Hw7.out.size) | exact (below_drew1 Hw7.out).trans (hbS.mono Hw7.out.size))
              clear hbS
              go_wp2
              refine HKK.out _ _ (fun _ _ => HwS.out) ?_
              clear HKK
              refine wpK_take0 (v := ?_) (a' := ?_) 9 rfl (by kernel_rfl) (by kernel_rfl) (by kernel_rfl) (by kernel_rfl) (fun _ _ _ h => h) ?_ ?_ ?_
              rotate_left 2
              · refine .inl ⟨by kernel_rfl, ?_⟩; intro wS hS; clear hS; go_simp; with_reducible rfl
              · go_simp; with_reducible rfl
              refine wpK_take0 (v := ?_) (a' := ?_) 10 rfl (by kernel_rfl) (by kernel_rfl) (by kernel_rfl) (by kernel_rfl) (fun _ _ _ h => h) ?_ ?_ ?_
              rotate_left 2
              · refine .inl ⟨by kernel_rfl, ?_⟩; intro wS hS; clear hS; go_simp; with_reducible rfl
              · go_simp; with_reducible rfl
              refine wpK_end (by kernel_rfl) ?_ _
              obtain ⟨w9, hw9⟩ : ∃ x, x = wS := ⟨_, rfl⟩
              subst hw9
              have Hw9 := HwS
              have HBM := Lib.hid Hw9.out
              have hh := HX.out w9 (HXW.out _ Hw9.out)
              have p1 : w9.cell? ⟨bx, ox + 1, none⟩ = some (.int .i64 nx) := hh.1.2.1
              have p3 : w9.cell? ⟨bx, ox + 3, none⟩ = some (.slice Ax lx.length cx) := hh.1.2.2.2
              have p7 : w9.cell? ⟨by_, oy + 3, none⟩ = some (.slice Ay ly.length cy) := hh.2.1.2.2.2
              clear hh
              obtain ⟨D, hD1, hD2, hD3⟩ := HMI.out.2.1.on HBM.out
              have HD := Lib.hid (And.intro hD1 (And.intro hD2 hD3))
              have hnmb := HMI.out.1
              clear hD1 hD2 hD3
              go_wp2_with (refine wpList_mapUpdate_own _ rfl _ _ _ 59 rfl 3 50 (Maps.int_keyed Tryz.underlying3) Tryz.underlying59 heldElem wB.heap.size nm D rfl HD.out.1 (by unfold maxLen; omega) (.int .i64 nx) (.pointer (some ⟨by_, oy, none⟩)) (.int .i64 nx) rfl rfl (Maps.keyOf_int_mk Tryz.underlying3 (wf64 hnx)) _ [] rfl ?_)
              intro wt hown1 hg1
              have HT : Hid (TAt wB wB.heap.size (σ.put nx (.mk ky ny sy ly)) L (.mk kx nx sx lx) (cellsP (⟨.mk kx nx sx lx, bx, ox, .mk ky ny sy ly, by_, oy⟩ :: L)) (.slice (some ⟨g, off, none⟩) (L.length + 1) cap) wt) := Lib.hid (TAt.put HAT.out HBM.out hnmb (ValMap.next HD.out.2.1 HD.out.2.2 hown1) hg1 HMI.out.2.2 HPX.out.2)
              clear hown1 hg1 hnmb
              go_wp2_with fail
              go_meet
              exact ⟨_, HLOC.out, HT.out, HLL.out, hll⟩
            · have hsm' : sameT (.mk ku nu su lu) (.mk ky ny sy ly) = false := by simpa using hsm
              have HSM := Lib.hid hsm'
              clear hsm hsm'
              have HLOC : Hid (loc va vb σ (.mk kx nx sx lx) (.mk ky ny sy ly) = none) := Lib.hid (loc_not HK1.out HNV.out HSG.out HSM.out)
              go_wp2
              clear q5 p1 p3 p7
              refine wp_region_K (fun w' => Below wr.heap.size wr w') (fun j => true) (by kernel_rfl) ?_
              refine wpK_take0 (v := ?_) (a' := ?_) 0 rfl (by kernel_rfl) (by kernel_rfl) (by kernel_rfl) (by kernel_rfl) (fun _ _ _ h => h) ?_ ?_ ?_
              rotate_left 2
              · refine .inl ⟨by kernel_rfl, ?_⟩; intro wS hS; clear hS; go_simp; with_reducible rfl
              · go_simp; with_reducible rfl
              refine wpK_take0 (v := ?_) (a' := ?_) 1 rfl (by kernel_rfl) (by kernel_rfl) (by kernel_rfl) (by kernel_rfl) (fun _ _ _ h => h) ?_ ?_ ?_
              rotate_left 2
              · refine .inl ⟨by kernel_rfl, ?_⟩; intro wS hS; clear hS; go_simp; with_reducible rfl
              · go_simp; with_reducible rfl
              refine wpK_take0 (v := ?_) (a' := ?_) 2 rfl (by kernel_rfl) (by kernel_rfl) (by kernel_rfl) (by kernel_rfl) (fun _ _ _ h => h) ?_ ?_ ?_
              rotate_left 2
              · refine .inl ⟨by kernel_rfl, ?_⟩; intro wS hS; clear hS; go_simp; with_reducible rfl
              · go_simp; with_reducible rfl
              refine wpK_take0 (v := ?_) (a' := ?_) 3 rfl (by kernel_rfl) (by kernel_rfl) (by kernel_rfl) (by kernel_rfl) (fun _ _ _ h => h) ?_ ?_ ?_
              rotate_left 2
              · refine .inl ⟨by kernel_rfl, ?_⟩; intro wS hS; clear hS; go_simp; with_reducible rfl
              · go_simp; with_reducible rfl
              refine wpK_take (v := (.agg #[.int .i64 ku, .int .i64 nu, .string su, .slice Au lu.length cu])) (a' := ?_) 4 rfl (by kernel_rfl) (by kernel_rfl) (by kernel_rfl) (by kernel_rfl) (by kernel_rfl) (fun _ _ _ h => h) (below_drew1 Hw7.out) ?_ ?_ ?_
              rotate_left 1
              · exact yieldsIf_load_mid (by kernel_rfl) 25 (.tmp 63) rfl bu ou (by go_simp) _ _ (fun wS hS => (HTU.out _ (HXW.out _ hS)).1) Tryz.underlying25 rfl (tySize _ _ _ _)
              · go_simp; with_reducible rfl
              refine wpK_take0 (v := ?_) (a' := ?_) 5 rfl (by kernel_rfl) (by kernel_rfl) (by kernel_rfl) (by kernel_rfl) (fun _ _ _ h => h) ?_ ?_ ?_
              rotate_left 2
              · refine .inl ⟨by kernel_rfl, ?_⟩; intro wS hS; clear hS; go_simp; with_reducible rfl
              · go_simp; with_reducible rfl
              refine wpK_take0 (v := ?_) (a' := ?_) 6 rfl (by kernel_rfl) (by kernel_rfl) (by kernel_rfl) (by kernel_rfl) (fun _ _ _ h => h) ?_ ?_ ?_
              rotate_left 2
              · refine .inl ⟨by kernel_rfl, ?_⟩; intro wS hS; clear hS; go_simp; with_reducible rfl
              · go_simp; with_reducible rfl
              refine wpK_take (v := (.agg #[.int .i64 ky, .int .i64 ny, .string sy, .slice Ay ly.length cy])) (a' := ?_) 7 rfl (by kernel_rfl) (by kernel_rfl) (by kernel_rfl) (by kernel_rfl) (by kernel_rfl) (fun _ _ _ h => h) (below_drew1 Hw7.out) ?_ ?_ ?_
              rotate_left 1
              · exact yieldsIf_load_mid (by kernel_rfl) 25 (.tmp 66) rfl by_ oy (by go_simp) _ _ (fun wS hS => (HTY.out _ (HXW.out _ hS)).1) Tryz.underlying25 rfl (tySize _ _ _ _)
              · go_simp; with_reducible rfl
              refine wpK_one 8 rfl (by kernel_rfl) (fun K hK => ?_)
              have HKK := Lib.hid hK
              clear hK
              go_wp2_with fail
              refine (same_val (HTU.out _ (HXW.out _ (by first | exact Hw7.out | exact below_drew1 Hw7.out))).2 (HTY.out _ (HXW.out _ (by first | exact Hw7.out | exact below_drew1 Hw7.out))).2).mono ?_
              rintro e wS ⟨he, hbS⟩
              rw [HSM.out] at he
              subst he
              have HwS : Hid (Below wr.heap.size wr wS) := Lib.hid (by first | exact Hw7.out.trans (hbS.mono Hw7.out.size) | exact (below_drew1 Hw7.out).trans (hbS.mono Hw7.out.size))
              clear hbS
              go_wp2
              refine HKK.out _ _ (fun _ _ => HwS.out) ?_
              clear HKK
              refine wpK_take0 (v := ?_) (a' := ?_) 9 rfl (by kernel_rfl) (by kernel_rfl) (by kernel_rfl) (by kernel_rfl) (fun _ _ _ h => h) ?_ ?_ ?_
              rotate_left 2
              · refine .inl ⟨by kernel_rfl, ?_⟩; intro wS hS; clear hS; go_simp; with_reducible rfl
              · go_simp; with_reducible rfl
              refine wpK_take0 (v := ?_) (a' := ?_) 10 rfl (by kernel_rfl) (by kernel_rfl) (by kernel_rfl) (by kernel_rfl) (fun _ _ _ h => h) ?_ ?_ ?_
              rotate_left 2
              · refine .inl ⟨by kernel_rfl, ?_⟩; intro wS hS; clear hS; go_simp; with_reducible rfl
              · go_simp; with_reducible rfl
              refine wpK_end (by kernel_rfl) ?_ _
              obtain ⟨w9, hw9⟩ : ∃ x, x = wS := ⟨_, rfl⟩
              subst hw9
              have Hw9 := HwS
              go_wp2
              try rw [Exit.noGoto_ret]
              go_ret
              exact ⟨ret_bool (HAT.out.stop HLOC.out).symm, HFIN.out.trans (Hw9.out.mono HFIN.out.size)⟩
        · have HNV := Lib.hid hnv
          refine wp_region_K (fun w' => Below wr.heap.size wr w') (fun j => true) (by kernel_rfl) ?_
          refine wpK_take0 (v := ?_) (a' := ?_) 0 rfl (by kernel_rfl) (by kernel_rfl) (by kernel_rfl) (by kernel_rfl) (fun _ _ _ h => h) ?_ ?_ ?_
          rotate_left 2
          · refine .inl ⟨by kernel_rfl, ?_⟩; intro wS hS; clear hS; go_simp; with_reducible rfl
          · go_simp; with_reducible rfl
          refine wpK_take0 (v := ?_) (a' := ?_) 1 rfl (by kernel_rfl) (by kernel_rfl) (by kernel_rfl) (by kernel_rfl) (fun _ _ _ h => h) ?_ ?_ ?_
          rotate_left 2
          · refine .inl ⟨by kernel_rfl, ?_⟩; intro wS hS; clear hS; go_simp; with_reducible rfl
          · go_simp; with_reducible rfl
          refine wpK_take0 (v := ?_) (a' := ?_) 2 rfl (by kernel_rfl) (by kernel_rfl) (by kernel_rfl) (by kernel_rfl) (fun _ _ _ h => h) ?_ ?_ ?_
          rotate_left 2
          · refine .inl ⟨by kernel_rfl, ?_⟩; intro wS hS; clear hS; go_simp; with_reducible rfl
          · go_simp; with_reducible rfl
          refine wpK_take (v := ?_) (a' := ?_) 3 rfl (by kernel_rfl) (by kernel_rfl) (by kernel_rfl) (by kernel_rfl) (by kernel_rfl) (fun _ _ _ h => h) (below_drew1 Hw6.out) ?_ ?_ ?_
          rotate_left 2
          · refine .inl ⟨by kernel_rfl, ?_⟩; intro wS hS; have hh := HX.out _ (HXW.out _ hS); have q0 : wS.cell? ⟨bx, ox, none⟩ = some (.int .i64 kx) := hh.1.1; have q1 : wS.cell? ⟨bx, ox + 1, none⟩ = some (.int .i64 nx) := hh.1.2.1; have q2 := hh.2.2.1; have q3 : wS.cell? ⟨bx, ox + 2, none⟩ = some (.string sx) := hh.1.2.2.1; have q4 : wS.cell? ⟨bx, ox + 3, none⟩ = some (.slice Ax lx.length cx) := hh.1.2.2.2; have r0 : wS.cell? ⟨by_, oy, none⟩ = some (.int .i64 ky) := hh.2.1.1; have r1 : wS.cell? ⟨by_, oy + 1, none⟩ = some (.int .i64 ny) := hh.2.1.2.1; have r3 : wS.cell? ⟨by_, oy + 2, none⟩ = some (.string sy) := hh.2.1.2.2.1; have r4 : wS.cell? ⟨by_, oy + 3, none⟩ = some (.slice Ay ly.length cy) := hh.2.1.2.2.2; have r2 := hh.2.2.2; clear hh; go_simp; with_reducible rfl
          · go_simp; with_reducible rfl
          refine wpK_take0 (v := ?_) (a' := ?_) 4 rfl (by kernel_rfl) (by kernel_rfl) (by kernel_rfl) (by kernel_rfl) (fun _ _ _ h => h) ?_ ?_ ?_
          rotate_left 2
          · refine .inl ⟨by kernel_rfl, ?_⟩; intro wS hS; clear hS; go_simp; with_reducible rfl
          · go_simp; with_reducible rfl
          refine wpK_take0 (v := ?_) (a' := ?_) 5 rfl (by kernel_rfl) (by kernel_rfl) (by kernel_rfl) (by kernel_rfl) (fun _ _ _ h => h) ?_ ?_ ?_
          rotate_left 2
          · refine .inl ⟨by kernel_rfl, ?_⟩; intro wS hS; clear hS; go_simp; with_reducible rfl
          · go_simp; with_reducible rfl
          refine wpK_take0 (v := ?_) (a' := ?_) 6 rfl (by kernel_rfl) (by kernel_rfl) (by kernel_rfl) (by kernel_rfl) (fun _ _ _ h => h) ?_ ?_ ?_
          rotate_left 2
          · refine .inl ⟨by kernel_rfl, ?_⟩; intro wS hS; clear hS; go_simp; with_reducible rfl
          · go_simp; with_reducible rfl
          refine wpK_take0 (v := ?_) (a' := ?_) 7 rfl (by kernel_rfl) (by kernel_rfl) (by kernel_rfl) (by kernel_rfl) (fun _ _ _ h => h) ?_ ?_ ?_
          rotate_left 2
          · refine .inl ⟨by kernel_rfl, ?_⟩; intro wS hS; clear hS; go_simp; with_reducible rfl
          · go_simp; with_reducible rfl
          refine wpK_take0 (v := ?_) (a' := ?_) 8 rfl (by kernel_rfl) (by kernel_rfl) (by kernel_rfl) (by kernel_rfl) (fun _ _ _ h => h) ?_ ?_ ?_
          rotate_left 2
          · refine .inl ⟨by kernel_rfl, ?_⟩; intro wS hS; clear hS; go_simp; with_reducible rfl
          · go_simp; with_reducible rfl
          refine wpK_take (v := ?_) (a' := ?_) 9 rfl (by kernel_rfl) (by kernel_rfl) (by kernel_rfl) (by kernel_rfl) (by kernel_rfl) (fun _ _ _ h => h) (below_drew1 Hw6.out) ?_ ?_ ?_
          rotate_left 2
          · refine .inl ⟨by kernel_rfl, ?_⟩; intro wS hS; have hh := HX.out _ (HXW.out _ hS); have q0 : wS.cell? ⟨bx, ox, none⟩ = some (.int .i64 kx) := hh.1.1; have q1 : wS.cell? ⟨bx, ox + 1, none⟩ = some (.int .i64 nx) := hh.1.2.1; have q2 := hh.2.2.1; have q3 : wS.cell? ⟨bx, ox + 2, none⟩ = some (.string sx) := hh.1.2.2.1; have q4 : wS.cell? ⟨bx, ox + 3, none⟩ = some (.slice Ax lx.length cx) := hh.1.2.2.2; have r0 : wS.cell? ⟨by_, oy, none⟩ = some (.int .i64 ky) := hh.2.1.1; have r1 : wS.cell? ⟨by_, oy + 1, none⟩ = some (.int .i64 ny) := hh.2.1.2.1; have r3 : wS.cell? ⟨by_, oy + 2, none⟩ = some (.string sy) := hh.2.1.2.2.1; have r4 : wS.cell? ⟨by_, oy + 3, none⟩ = some (.slice Ay ly.length cy) := hh.2.1.2.2.2; have r2 := hh.2.2.2; clear hh; go_simp; with_reducible rfl
          · go_simp; with_reducible rfl
          refine wpK_take0 (v := ?_) (a' := ?_) 10 rfl (by kernel_rfl) (by kernel_rfl) (by kernel_rfl) (by kernel_rfl) (fun _ _ _ h => h) ?_ ?_ ?_
          rotate_left 2
          · refine .inl ⟨by kernel_rfl, ?_⟩; intro wS hS; clear hS; go_simp; with_reducible rfl
          · go_simp; with_reducible rfl
          refine wpK_take (v := ?_) (a' := ?_) 11 rfl (by kernel_rfl) (by kernel_rfl) (by kernel_rfl) (by kernel_rfl) (by kernel_rfl) (fun _ _ _ h => h) (below_drew1 Hw6.out) ?_ ?_ ?_
          rotate_left 2
          · refine .inl ⟨by kernel_rfl, ?_⟩; intro wS hS; have hh := HX.out _ (HXW.out _ hS); have q0 : wS.cell? ⟨bx, ox, none⟩ = some (.int .i64 kx) := hh.1.1; have q1 : wS.cell? ⟨bx, ox + 1, none⟩ = some (.int .i64 nx) := hh.1.2.1; have q2 := hh.2.2.1; have q3 : wS.cell? ⟨bx, ox + 2, none⟩ = some (.string sx) := hh.1.2.2.1; have q4 : wS.cell? ⟨bx, ox + 3, none⟩ = some (.slice Ax lx.length cx) := hh.1.2.2.2; have r0 : wS.cell? ⟨by_, oy, none⟩ = some (.int .i64 ky) := hh.2.1.1; have r1 : wS.cell? ⟨by_, oy + 1, none⟩ = some (.int .i64 ny) := hh.2.1.2.1; have r3 : wS.cell? ⟨by_, oy + 2, none⟩ = some (.string sy) := hh.2.1.2.2.1; have r4 : wS.cell? ⟨by_, oy + 3, none⟩ = some (.slice Ay ly.length cy) := hh.2.1.2.2.2; have r2 := hh.2.2.2; clear hh; go_simp; with_reducible rfl
          · go_simp; with_reducible rfl
          refine wpK_take0 (v := ?_) (a' := ?_) 12 rfl (by kernel_rfl) (by kernel_rfl) (by kernel_rfl) (by kernel_rfl) (fun _ _ _ h => h) ?_ ?_ ?_
          rotate_left 2
          · refine .inl ⟨by kernel_rfl, ?_⟩; intro wS hS; clear hS; go_simp; with_reducible rfl
          · go_simp; with_reducible rfl
          refine wpK_take0 (v := ?_) (a' := ?_) 13 rfl (by kernel_rfl) (by kernel_rfl) (by kernel_rfl) (by kernel_rfl) (fun _ _ _ h => h) ?_ ?_ ?_
          rotate_left 2
          · refine .inl ⟨by kernel_rfl, ?_⟩; intro wS hS; clear hS; go_simp; with_reducible rfl
          · go_simp; with_reducible rfl
          refine wpK_take0 (v := ?_) (a' := ?_) 14 rfl (by kernel_rfl) (by kernel_rfl) (by kernel_rfl) (by kernel_rfl) (fun _ _ _ h => h) ?_ ?_ ?_
          rotate_left 2
          · refine .inl ⟨by kernel_rfl, ?_⟩; intro wS hS; clear hS; go_simp; with_reducible rfl
          · go_simp; with_reducible rfl
          refine wpK_end (by kernel_rfl) ?_ _
          change Exit.then _ _ _ _ w6.drew
          obtain ⟨w7, hw7⟩ : ∃ x, x = w6.drew := ⟨_, rfl⟩
          rw [← hw7]
          have Hw7 : Hid (Below wr.heap.size wr w7) := Lib.hid (by rw [hw7]; exact below_drew1 Hw6.out)
          clear hw7
          by_cases hky : ky = 1
          · have hnk : (kx != ky) = false := by simp [HK1.out, hky]
            have hFX := formed_var HFX.out.1 HK1.out
            have hFY := formed_var HFX.out.2 hky
            have hns : (sx.toList == sy.toList) = true := by rw [hFX.2.1, hFY.2.1]; simp
            have hnl : ((lx.length : Int) != (ly.length : Int)) = false := by rw [hFX.2.2, hFY.2.2]; simp
            have hx0 := hFX.1
            have hy0 := hFY.1
            have HKY := Lib.hid hky
            clear hky hFX hFY
            go_wp2
            refine wp_region_K (fun w' => Below wr.heap.size wr w') (fun j => true) (by kernel_rfl) ?_
            refine wpK_take0 (v := ?_) (a' := ?_) 0 rfl (by kernel_rfl) (by kernel_rfl) (by kernel_rfl) (by kernel_rfl) (fun _ _ _ h => h) ?_ ?_ ?_
            rotate_left 2
            · refine .inl ⟨by kernel_rfl, ?_⟩; intro wS hS; clear hS; go_simp; with_reducible rfl
            · go_simp; with_reducible rfl
            refine wpK_take0 (v := ?_) (a' := ?_) 1 rfl (by kernel_rfl) (by kernel_rfl) (by kernel_rfl) (by kernel_rfl) (fun _ _ _ h => h) ?_ ?_ ?_
            rotate_left 2
            · refine .inl ⟨by kernel_rfl, ?_⟩; intro wS hS; clear hS; go_simp; with_reducible rfl
            · go_simp; with_reducible rfl
            refine wpK_take0 (v := ?_) (a' := ?_) 2 rfl (by kernel_rfl) (by kernel_rfl) (by kernel_rfl) (by kernel_rfl) (fun _ _ _ h => h) ?_ ?_ ?_
            rotate_left 2
            · refine .inl ⟨by kernel_rfl, ?_⟩; intro wS hS; clear hS; go_simp; with_reducible rfl
            · go_simp; with_reducible rfl
            refine wpK_take (v := ?_) (a' := ?_) 3 rfl (by kernel_rfl) (by kernel_rfl) (by kernel_rfl) (by kernel_rfl) (by kernel_rfl) (fun _ _ _ h => h) (below_drew1 Hw7.out) ?_ ?_ ?_
            rotate_left 2
            · refine .inl ⟨by kernel_rfl, ?_⟩; intro wS hS; have hh := HX.out _ (HXW.out _ hS); have q0 : wS.cell? ⟨bx, ox, none⟩ = some (.int .i64 kx) := hh.1.1; have q1 : wS.cell? ⟨bx, ox + 1, none⟩ = some (.int .i64 nx) := hh.1.2.1; have q2 := hh.2.2.1; have q3 : wS.cell? ⟨bx, ox + 2, none⟩ = some (.string sx) := hh.1.2.2.1; have q4 : wS.cell? ⟨bx, ox + 3, none⟩ = some (.slice Ax lx.length cx) := hh.1.2.2.2; have r0 : wS.cell? ⟨by_, oy, none⟩ = some (.int .i64 ky) := hh.2.1.1; have r1 : wS.cell? ⟨by_, oy + 1, none⟩ = some (.int .i64 ny) := hh.2.1.2.1; have r3 : wS.cell? ⟨by_, oy + 2, none⟩ = some (.string sy) := hh.2.1.2.2.1; have r4 : wS.cell? ⟨by_, oy + 3, none⟩ = some (.slice Ay ly.length cy) := hh.2.1.2.2.2; have r2 := hh.2.2.2; clear hh; go_simp; with_reducible rfl
            · go_simp; with_reducible rfl
            refine wpK_take0 (v := ?_) (a' := ?_) 4 rfl (by kernel_rfl) (by kernel_rfl) (by kernel_rfl) (by kernel_rfl) (fun _ _ _ h => h) ?_ ?_ ?_
            rotate_left 2
            · refine .inl ⟨by kernel_rfl, ?_⟩; intro wS hS; clear hS; go_simp; with_reducible rfl
            · go_simp; with_reducible rfl
            refine wpK_take0 (v := ?_) (a' := ?_) 5 rfl (by kernel_rfl) (by kernel_rfl) (by kernel_rfl) (by kernel_rfl) (fun _ _ _ h => h) ?_ ?_ ?_
            rotate_left 2
            · refine .inl ⟨by kernel_rfl, ?_⟩; intro wS hS; clear hS; go_simp; with_reducible rfl
            · go_simp; with_reducible rfl
            refine wpK_take0 (v := ?_) (a' := ?_) 6 rfl (by kernel_rfl) (by kernel_rfl) (by kernel_rfl) (by kernel_rfl) (fun _ _ _ h => h) ?_ ?_ ?_
            rotate_left 2
            · refine .inl ⟨by kernel_rfl, ?_⟩; intro wS hS; clear hS; go_simp; with_reducible rfl
            · go_simp; with_reducible rfl
            refine wpK_take (v := ?_) (a' := ?_) 7 rfl (by kernel_rfl) (by kernel_rfl) (by kernel_rfl) (by kernel_rfl) (by kernel_rfl) (fun _ _ _ h => h) (below_drew1 Hw7.out) ?_ ?_ ?_
            rotate_left 2
            · refine .inl ⟨by kernel_rfl, ?_⟩; intro wS hS; have hh := HX.out _ (HXW.out _ hS); have q0 : wS.cell? ⟨bx, ox, none⟩ = some (.int .i64 kx) := hh.1.1; have q1 : wS.cell? ⟨bx, ox + 1, none⟩ = some (.int .i64 nx) := hh.1.2.1; have q2 := hh.2.2.1; have q3 : wS.cell? ⟨bx, ox + 2, none⟩ = some (.string sx) := hh.1.2.2.1; have q4 : wS.cell? ⟨bx, ox + 3, none⟩ = some (.slice Ax lx.length cx) := hh.1.2.2.2; have r0 : wS.cell? ⟨by_, oy, none⟩ = some (.int .i64 ky) := hh.2.1.1; have r1 : wS.cell? ⟨by_, oy + 1, none⟩ = some (.int .i64 ny) := hh.2.1.2.1; have r3 : wS.cell? ⟨by_, oy + 2, none⟩ = some (.string sy) := hh.2.1.2.2.1; have r4 : wS.cell? ⟨by_, oy + 3, none⟩ = some (.slice Ay ly.length cy) := hh.2.1.2.2.2; have r2 := hh.2.2.2; clear hh; go_simp; with_reducible rfl
            · go_simp; with_reducible rfl
            refine wpK_take0 (v := ?_) (a' := ?_) 8 rfl (by kernel_rfl) (by kernel_rfl) (by kernel_rfl) (by kernel_rfl) (fun _ _ _ h => h) ?_ ?_ ?_
            rotate_left 2
            · refine .inl ⟨by kernel_rfl, ?_⟩; intro wS hS; clear hS; go_simp; with_reducible rfl
            · go_simp; with_reducible rfl
            refine wpK_take0 (v := ?_) (a' := ?_) 9 rfl (by kernel_rfl) (by kernel_rfl) (by kernel_rfl) (by kernel_rfl) (fun _ _ _ h => h) ?_ ?_ ?_
            rotate_left 2
            · refine .inl ⟨by kernel_rfl, ?_⟩; intro wS hS; clear hS; go_simp; with_reducible rfl
            · go_simp; with_reducible rfl
            refine wpK_take0 (v := ?_) (a' := ?_) 10 rfl (by kernel_rfl) (by kernel_rfl) (by kernel_rfl) (by kernel_rfl) (fun _ _ _ h => h) ?_ ?_ ?_
            rotate_left 2
            · refine .inl ⟨by kernel_rfl, ?_⟩; intro wS hS; clear hS; go_simp; with_reducible rfl
            · go_simp; with_reducible rfl
            refine wpK_take0 (v := ?_) (a' := ?_) 11 rfl (by kernel_rfl) (by kernel_rfl) (by kernel_rfl) (by kernel_rfl) (fun _ _ _ h => h) ?_ ?_ ?_
            rotate_left 2
            · refine .inl ⟨by kernel_rfl, ?_⟩; intro wS hS; clear hS; go_simp; with_reducible rfl
            · go_simp; with_reducible rfl
            refine wpK_take0 (v := ?_) (a' := ?_) 12 rfl (by kernel_rfl) (by kernel_rfl) (by kernel_rfl) (by kernel_rfl) (fun _ _ _ h => h) ?_ ?_ ?_
            rotate_left 2
            · refine .inl ⟨by kernel_rfl, ?_⟩; intro wS hS; clear hS; go_simp; with_reducible rfl
            · go_simp; with_reducible rfl
            refine wpK_take (v := ?_) (a' := ?_) 13 rfl (by kernel_rfl) (by kernel_rfl) (by kernel_rfl) (by kernel_rfl) (by kernel_rfl) (fun _ _ _ h => h) (below_drew1 Hw7.out) ?_ ?_ ?_
            rotate_left 2
            · refine .inl ⟨by kernel_rfl, ?_⟩; intro wS hS; have hh := HX.out _ (HXW.out _ hS); have q0 : wS.cell? ⟨bx, ox, none⟩ = some (.int .i64 kx) := hh.1.1; have q1 : wS.cell? ⟨bx, ox + 1, none⟩ = some (.int .i64 nx) := hh.1.2.1; have q2 := hh.2.2.1; have q3 : wS.cell? ⟨bx, ox + 2, none⟩ = some (.string sx) := hh.1.2.2.1; have q4 : wS.cell? ⟨bx, ox + 3, none⟩ = some (.slice Ax lx.length cx) := hh.1.2.2.2; have r0 : wS.cell? ⟨by_, oy, none⟩ = some (.int .i64 ky) := hh.2.1.1; have r1 : wS.cell? ⟨by_, oy + 1, none⟩ = some (.int .i64 ny) := hh.2.1.2.1; have r3 : wS.cell? ⟨by_, oy + 2, none⟩ = some (.string sy) := hh.2.1.2.2.1; have r4 : wS.cell? ⟨by_, oy + 3, none⟩ = some (.slice Ay ly.length cy) := hh.2.1.2.2.2; have r2 := hh.2.2.2; clear hh; go_simp; with_reducible rfl
            · go_simp; with_reducible rfl
            refine wpK_take0 (v := ?_) (a' := ?_) 14 rfl (by kernel_rfl) (by kernel_rfl) (by kernel_rfl) (by kernel_rfl) (fun _ _ _ h => h) ?_ ?_ ?_
            rotate_left 2
            · refine .inl ⟨by kernel_rfl, ?_⟩; intro wS hS; clear hS; go_simp; with_reducible rfl
            · go_simp; with_reducible rfl
            refine wpK_take0 (v := ?_) (a' := ?_) 15 rfl (by kernel_rfl) (by kernel_rfl) (by kernel_rfl) (by kernel_rfl) (fun _ _ _ h => h) ?_ ?_ ?_
            rotate_left 2
            · refine .inl ⟨by kernel_rfl, ?_⟩; intro wS hS; clear hS; go_simp; with_reducible rfl
            · go_simp; with_reducible rfl
            refine wpK_take0 (v := ?_) (a' := ?_) 16 rfl (by kernel_rfl) (by kernel_rfl) (by kernel_rfl) (by kernel_rfl) (fun _ _ _ h => h) ?_ ?_ ?_
            rotate_left 2
            · refine .inl ⟨by kernel_rfl, ?_⟩; intro wS hS; clear hS; go_simp; with_reducible rfl
            · go_simp; with_reducible rfl
            refine wpK_take (v := ?_) (a' := ?_) 17 rfl (by kernel_rfl) (by kernel_rfl) (by kernel_rfl) (by kernel_rfl) (by kernel_rfl) (fun _ _ _ h => h) (below_drew1 Hw7.out) ?_ ?_ ?_
            rotate_left 2
            · refine .inl ⟨by kernel_rfl, ?_⟩; intro wS hS; have hh := HX.out _ (HXW.out _ hS); have q0 : wS.cell? ⟨bx, ox, none⟩ = some (.int .i64 kx) := hh.1.1; have q1 : wS.cell? ⟨bx, ox + 1, none⟩ = some (.int .i64 nx) := hh.1.2.1; have q2 := hh.2.2.1; have q3 : wS.cell? ⟨bx, ox + 2, none⟩ = some (.string sx) := hh.1.2.2.1; have q4 : wS.cell? ⟨bx, ox + 3, none⟩ = some (.slice Ax lx.length cx) := hh.1.2.2.2; have r0 : wS.cell? ⟨by_, oy, none⟩ = some (.int .i64 ky) := hh.2.1.1; have r1 : wS.cell? ⟨by_, oy + 1, none⟩ = some (.int .i64 ny) := hh.2.1.2.1; have r3 : wS.cell? ⟨by_, oy + 2, none⟩ = some (.string sy) := hh.2.1.2.2.1; have r4 : wS.cell? ⟨by_, oy + 3, none⟩ = some (.slice Ay ly.length cy) := hh.2.1.2.2.2; have r2 := hh.2.2.2; clear hh; go_simp; with_reducible rfl
            · go_simp; with_reducible rfl
            refine wpK_take0 (v := ?_) (a' := ?_) 18 rfl (by kernel_rfl) (by kernel_rfl) (by kernel_rfl) (by kernel_rfl) (fun _ _ _ h => h) ?_ ?_ ?_
            rotate_left 2
            · refine .inl ⟨by kernel_rfl, ?_⟩; intro wS hS; clear hS; go_simp; with_reducible rfl
            · go_simp; with_reducible rfl
            refine wpK_take0 (v := ?_) (a' := ?_) 19 rfl (by kernel_rfl) (by kernel_rfl) (by kernel_rfl) (by kernel_rfl) (fun _ _ _ h => h) ?_ ?_ ?_
            rotate_left 2
            · refine .inl ⟨by kernel_rfl, ?_⟩; intro wS hS; clear hS; go_simp; with_reducible rfl
            · go_simp; with_reducible rfl
            refine wpK_take0 (v := ?_) (a' := ?_) 20 rfl (by kernel_rfl) (by kernel_rfl) (by kernel_rfl) (by kernel_rfl) (fun _ _ _ h => h) ?_ ?_ ?_
            rotate_left 2
            · refine .inl ⟨by kernel_rfl, ?_⟩; intro wS hS; clear hS; go_simp; with_reducible rfl
            · go_simp; with_reducible rfl
            refine wpK_take0 (v := ?_) (a' := ?_) 21 rfl (by kernel_rfl) (by kernel_rfl) (by kernel_rfl) (by kernel_rfl) (fun _ _ _ h => h) ?_ ?_ ?_
            rotate_left 2
            · refine .inl ⟨by kernel_rfl, ?_⟩; intro wS hS; clear hS; go_simp; with_reducible rfl
            · go_simp; with_reducible rfl
            refine wpK_take0 (v := ?_) (a' := ?_) 22 rfl (by kernel_rfl) (by kernel_rfl) (by kernel_rfl) (by kernel_rfl) (fun _ _ _ h => h) ?_ ?_ ?_
            rotate_left 2
            · refine .inl ⟨by kernel_rfl, ?_⟩; intro wS hS; clear hS; go_simp; with_reducible rfl
            · go_simp; with_reducible rfl
            refine wpK_take0 (v := ?_) (a' := ?_) 23 rfl (by kernel_rfl) (by kernel_rfl) (by kernel_rfl) (by kernel_rfl) (fun _ _ _ h => h) ?_ ?_ ?_
            rotate_left 2
            · refine .inl ⟨by kernel_rfl, ?_⟩; intro wS hS; clear hS; go_simp; with_reducible rfl
            · go_simp; with_reducible rfl
            refine wpK_take (v := ?_) (a' := ?_) 24 rfl (by kernel_rfl) (by kernel_rfl) (by kernel_rfl) (by kernel_rfl) (by kernel_rfl) (fun _ _ _ h => h) (below_drew1 Hw7.out) ?_ ?_ ?_
            rotate_left 2
            · refine .inl ⟨by kernel_rfl, ?_⟩; intro wS hS; have hh := HX.out _ (HXW.out _ hS); have q0 : wS.cell? ⟨bx, ox, none⟩ = some (.int .i64 kx) := hh.1.1; have q1 : wS.cell? ⟨bx, ox + 1, none⟩ = some (.int .i64 nx) := hh.1.2.1; have q2 := hh.2.2.1; have q3 : wS.cell? ⟨bx, ox + 2, none⟩ = some (.string sx) := hh.1.2.2.1; have q4 : wS.cell? ⟨bx, ox + 3, none⟩ = some (.slice Ax lx.length cx) := hh.1.2.2.2; have r0 : wS.cell? ⟨by_, oy, none⟩ = some (.int .i64 ky) := hh.2.1.1; have r1 : wS.cell? ⟨by_, oy + 1, none⟩ = some (.int .i64 ny) := hh.2.1.2.1; have r3 : wS.cell? ⟨by_, oy + 2, none⟩ = some (.string sy) := hh.2.1.2.2.1; have r4 : wS.cell? ⟨by_, oy + 3, none⟩ = some (.slice Ay ly.length cy) := hh.2.1.2.2.2; have r2 := hh.2.2.2; clear hh; go_simp; with_reducible rfl
            · go_simp; with_reducible rfl
            refine wpK_take0 (v := ?_) (a' := ?_) 25 rfl (by kernel_rfl) (by kernel_rfl) (by kernel_rfl) (by kernel_rfl) (fun _ _ _ h => h) ?_ ?_ ?_
            rotate_left 2
            · refine .inl ⟨by kernel_rfl, ?_⟩; intro wS hS; clear hS; go_simp; with_reducible rfl
            · go_simp; with_reducible rfl
            refine wpK_take0 (v := ?_) (a' := ?_) 26 rfl (by kernel_rfl) (by kernel_rfl) (by kernel_rfl) (by kernel_rfl) (fun _ _ _ h => h) ?_ ?_ ?_
            rotate_left 2
            · refine .inl ⟨by kernel_rfl, ?_⟩; intro wS hS; clear hS; go_simp; with_reducible rfl
            · go_simp; with_reducible rfl
            refine wpK_take0 (v := ?_) (a' := ?_) 27 rfl (by kernel_rfl) (by kernel_rfl) (by kernel_rfl) (by kernel_rfl) (fun _ _ _ h => h) ?_ ?_ ?_
            rotate_left 2
            · refine .inl ⟨by kernel_rfl, ?_⟩; intro wS hS; clear hS; go_simp; with_reducible rfl
            · go_simp; with_reducible rfl
            refine wpK_take0 (v := ?_) (a' := ?_) 28 rfl (by kernel_rfl) (by kernel_rfl) (by kernel_rfl) (by kernel_rfl) (fun _ _ _ h => h) ?_ ?_ ?_
            rotate_left 2
            · refine .inl ⟨by kernel_rfl, ?_⟩; intro wS hS; clear hS; go_simp; with_reducible rfl
            · go_simp; with_reducible rfl
            refine wpK_take (v := ?_) (a' := ?_) 29 rfl (by kernel_rfl) (by kernel_rfl) (by kernel_rfl) (by kernel_rfl) (by kernel_rfl) (fun _ _ _ h => h) (below_drew1 Hw7.out) ?_ ?_ ?_
            rotate_left 2
            · refine .inl ⟨by kernel_rfl, ?_⟩; intro wS hS; have hh := HX.out _ (HXW.out _ hS); have q0 : wS.cell? ⟨bx, ox, none⟩ = some (.int .i64 kx) := hh.1.1; have q1 : wS.cell? ⟨bx, ox + 1, none⟩ = some (.int .i64 nx) := hh.1.2.1; have q2 := hh.2.2.1; have q3 : wS.cell? ⟨bx, ox + 2, none⟩ = some (.string sx) := hh.1.2.2.1; have q4 : wS.cell? ⟨bx, ox + 3, none⟩ = some (.slice Ax lx.length cx) := hh.1.2.2.2; have r0 : wS.cell? ⟨by_, oy, none⟩ = some (.int .i64 ky) := hh.2.1.1; have r1 : wS.cell? ⟨by_, oy + 1, none⟩ = some (.int .i64 ny) := hh.2.1.2.1; have r3 : wS.cell? ⟨by_, oy + 2, none⟩ = some (.string sy) := hh.2.1.2.2.1; have r4 : wS.cell? ⟨by_, oy + 3, none⟩ = some (.slice Ay ly.length cy) := hh.2.1.2.2.2; have r2 := hh.2.2.2; clear hh; go_simp; with_reducible rfl
            · go_simp; with_reducible rfl
            refine wpK_take0 (v := ?_) (a' := ?_) 30 rfl (by kernel_rfl) (by kernel_rfl) (by kernel_rfl) (by kernel_rfl) (fun _ _ _ h => h) ?_ ?_ ?_
            rotate_left 2
            · refine .inl ⟨by kernel_rfl, ?_⟩; intro wS hS; clear hS; go_simp; with_reducible rfl
            · go_simp; with_reducible rfl
            refine wpK_take0 (v := ?_) (a' := ?_) 31 rfl (by kernel_rfl) (by kernel_rfl) (by kernel_rfl) (by kernel_rfl) (fun _ _ _ h => h) ?_ ?_ ?_
            rotate_left 2
            · refine .inl ⟨by kernel_rfl, ?_⟩; intro wS hS; clear hS; go_simp; with_reducible rfl
            · go_simp; with_reducible rfl
            refine wpK_take0 (v := ?_) (a' := ?_) 32 rfl (by kernel_rfl) (by kernel_rfl) (by kernel_rfl) (by kernel_rfl) (fun _ _ _ h => h) ?_ ?_ ?_
            rotate_left 2
            · refine .inl ⟨by kernel_rfl, ?_⟩; intro wS hS; clear hS; go_simp; with_reducible rfl
            · go_simp; with_reducible rfl
            refine wpK_take0 (v := ?_) (a' := ?_) 33 rfl (by kernel_rfl) (by kernel_rfl) (by kernel_rfl) (by kernel_rfl) (fun _ _ _ h => h) ?_ ?_ ?_
            rotate_left 2
            · refine .inl ⟨by kernel_rfl, ?_⟩; intro wS hS; clear hS; go_simp; with_reducible rfl
            · go_simp; with_reducible rfl
            refine wpK_end (by kernel_rfl) ?_ _
            change Exit.then _ _ _ _ w7.drew
            obtain ⟨w11, hw11⟩ : ∃ x, x = w7.drew := ⟨_, rfl⟩
            rw [← hw11]
            have Hw11 : Hid (Below wr.heap.size wr w11) := Lib.hid (by rw [hw11]; exact below_drew1 Hw7.out)
            clear hw11
            go_wp2
            have hw1 : IntKind.i64.wrap (nx - va) = nx - va := by rw [IntKind.wrap_i64]; omega
            have hw2 : IntKind.i64.wrap (ny - vb) = ny - vb := by rw [IntKind.wrap_i64]; omega
            by_cases hnn : nx - va = ny - vb
            · have HLOC : Hid (loc va vb σ (.mk kx nx sx lx) (.mk ky ny sy ly) = some σ) := Lib.hid ((loc_free HK1.out (by have := HNV.out; omega)).trans (if_pos ⟨HKY.out, by have := HNV.out; omega, hnn.symm⟩))
              have hne : (IntKind.i64.wrap (nx - va) != IntKind.i64.wrap (ny - vb)) = false := by
                rw [hw1, hw2]; simp [hnn]
              clear hw1 hw2
              refine wp_region_K (fun w' => Below wr.heap.size wr w') (fun j => true) (by kernel_rfl) ?_
              refine wpK_take0 (v := ?_) (a' := ?_) 0 rfl (by kernel_rfl) (by kernel_rfl) (by kernel_rfl) (by kernel_rfl) (fun _ _ _ h => h) ?_ ?_ ?_
              rotate_left 2
              · refine .inl ⟨by kernel_rfl, ?_⟩; intro wS hS; clear hS; go_simp; with_reducible rfl
              · go_simp; with_reducible rfl
              refine wpK_take0 (v := ?_) (a' := ?_) 1 rfl (by kernel_rfl) (by kernel_rfl) (by kernel_rfl) (by kernel_rfl) (fun _ _ _ h => h) ?_ ?_ ?_
              rotate_left 2
              · refine .inl ⟨by kernel_rfl, ?_⟩; intro wS hS; clear hS; go_simp; with_reducible rfl
              · go_simp; with_reducible rfl
              refine wpK_take0 (v := ?_) (a' := ?_) 2 rfl (by kernel_rfl) (by kernel_rfl) (by kernel_rfl) (by kernel_rfl) (fun _ _ _ h => h) ?_ ?_ ?_
              rotate_left 2
              · refine .inl ⟨by kernel_rfl, ?_⟩; intro wS hS; clear hS; go_simp; with_reducible rfl
              · go_simp; with_reducible rfl
              refine wpK_take (v := ?_) (a' := ?_) 3 rfl (by kernel_rfl) (by kernel_rfl) (by kernel_rfl) (by kernel_rfl) (by kernel_rfl) (fun _ _ _ h => h) (below_drew1 Hw11.out) ?_ ?_ ?_
              rotate_left 2
              · refine .inl ⟨by kernel_rfl, ?_⟩; intro wS hS; have hh := HX.out _ (HXW.out _ hS); have q0 : wS.cell? ⟨bx, ox, none⟩ = some (.int .i64 kx) := hh.1.1; have q1 : wS.cell? ⟨bx, ox + 1, none⟩ = some (.int .i64 nx) := hh.1.2.1; have q2 := hh.2.2.1; have q3 : wS.cell? ⟨bx, ox + 2, none⟩ = some (.string sx) := hh.1.2.2.1; have q4 : wS.cell? ⟨bx, ox + 3, none⟩ = some (.slice Ax lx.length cx) := hh.1.2.2.2; have r0 : wS.cell? ⟨by_, oy, none⟩ = some (.int .i64 ky) := hh.2.1.1; have r1 : wS.cell? ⟨by_, oy + 1, none⟩ = some (.int .i64 ny) := hh.2.1.2.1; have r3 : wS.cell? ⟨by_, oy + 2, none⟩ = some (.string sy) := hh.2.1.2.2.1; have r4 : wS.cell? ⟨by_, oy + 3, none⟩ = some (.slice Ay ly.length cy) := hh.2.1.2.2.2; have r2 := hh.2.2.2; clear hh; go_simp; with_reducible rfl
              · go_simp; with_reducible rfl
              refine wpK_take0 (v := ?_) (a' := ?_) 4 rfl (by kernel_rfl) (by kernel_rfl) (by kernel_rfl) (by kernel_rfl) (fun _ _ _ h => h) ?_ ?_ ?_
              rotate_left 2
              · refine .inl ⟨by kernel_rfl, ?_⟩; intro wS hS; clear hS; go_simp; with_reducible rfl
              · go_simp; with_reducible rfl
              refine wpK_take0 (v := ?_) (a' := ?_) 5 rfl (by kernel_rfl) (by kernel_rfl) (by kernel_rfl) (by kernel_rfl) (fun _ _ _ h => h) ?_ ?_ ?_
              rotate_left 2
              · refine .inl ⟨by kernel_rfl, ?_⟩; intro wS hS; clear hS; go_simp; with_reducible rfl
              · go_simp; with_reducible rfl
              refine wpK_take0 (v := ?_) (a' := ?_) 6 rfl (by kernel_rfl) (by kernel_rfl) (by kernel_rfl) (by kernel_rfl) (fun _ _ _ h => h) ?_ ?_ ?_
              rotate_left 2
              · refine .inl ⟨by kernel_rfl, ?_⟩; intro wS hS; clear hS; go_simp; with_reducible rfl
              · go_simp; with_reducible rfl
              refine wpK_take0 (v := ?_) (a' := ?_) 7 rfl (by kernel_rfl) (by kernel_rfl) (by kernel_rfl) (by kernel_rfl) (fun _ _ _ h => h) ?_ ?_ ?_
              rotate_left 2
              · refine .inl ⟨by kernel_rfl, ?_⟩; intro wS hS; clear hS; go_simp; with_reducible rfl
              · go_simp; with_reducible rfl
              refine wpK_take0 (v := ?_) (a' := ?_) 8 rfl (by kernel_rfl) (by kernel_rfl) (by kernel_rfl) (by kernel_rfl) (fun _ _ _ h => h) ?_ ?_ ?_
              rotate_left 2
              · refine .inl ⟨by kernel_rfl, ?_⟩; intro wS hS; clear hS; go_simp; with_reducible rfl
              · go_simp; with_reducible rfl
              refine wpK_take (v := ?_) (a' := ?_) 9 rfl (by kernel_rfl) (by kernel_rfl) (by kernel_rfl) (by kernel_rfl) (by kernel_rfl) (fun _ _ _ h => h) (below_drew1 Hw11.out) ?_ ?_ ?_
              rotate_left 2
              · refine .inl ⟨by kernel_rfl, ?_⟩; intro wS hS; have hh := HX.out _ (HXW.out _ hS); have q0 : wS.cell? ⟨bx, ox, none⟩ = some (.int .i64 kx) := hh.1.1; have q1 : wS.cell? ⟨bx, ox + 1, none⟩ = some (.int .i64 nx) := hh.1.2.1; have q2 := hh.2.2.1; have q3 : wS.cell? ⟨bx, ox + 2, none⟩ = some (.string sx) := hh.1.2.2.1; have q4 : wS.cell? ⟨bx, ox + 3, none⟩ = some (.slice Ax lx.length cx) := hh.1.2.2.2; have r0 : wS.cell? ⟨by_, oy, none⟩ = some (.int .i64 ky) := hh.2.1.1; have r1 : wS.cell? ⟨by_, oy + 1, none⟩ = some (.int .i64 ny) := hh.2.1.2.1; have r3 : wS.cell? ⟨by_, oy + 2, none⟩ = some (.string sy) := hh.2.1.2.2.1; have r4 : wS.cell? ⟨by_, oy + 3, none⟩ = some (.slice Ay ly.length cy) := hh.2.1.2.2.2; have r2 := hh.2.2.2; clear hh; go_simp; with_reducible rfl
              · go_simp; with_reducible rfl
              refine wpK_take0 (v := ?_) (a' := ?_) 10 rfl (by kernel_rfl) (by kernel_rfl) (by kernel_rfl) (by kernel_rfl) (fun _ _ _ h => h) ?_ ?_ ?_
              rotate_left 2
              · refine .inl ⟨by kernel_rfl, ?_⟩; intro wS hS; clear hS; go_simp; with_reducible rfl
              · go_simp; with_reducible rfl
              refine wpK_take (v := ?_) (a' := ?_) 11 rfl (by kernel_rfl) (by kernel_rfl) (by kernel_rfl) (by kernel_rfl) (by kernel_rfl) (fun _ _ _ h => h) (below_drew1 Hw11.out) ?_ ?_ ?_
              rotate_left 2
              · refine .inl ⟨by kernel_rfl, ?_⟩; intro wS hS; have hh := HX.out _ (HXW.out _ hS); have q0 : wS.cell? ⟨bx, ox, none⟩ = some (.int .i64 kx) := hh.1.1; have q1 : wS.cell? ⟨bx, ox + 1, none⟩ = some (.int .i64 nx) := hh.1.2.1; have q2 := hh.2.2.1; have q3 : wS.cell? ⟨bx, ox + 2, none⟩ = some (.string sx) := hh.1.2.2.1; have q4 : wS.cell? ⟨bx, ox + 3, none⟩ = some (.slice Ax lx.length cx) := hh.1.2.2.2; have r0 : wS.cell? ⟨by_, oy, none⟩ = some (.int .i64 ky) := hh.2.1.1; have r1 : wS.cell? ⟨by_, oy + 1, none⟩ = some (.int .i64 ny) := hh.2.1.2.1; have r3 : wS.cell? ⟨by_, oy + 2, none⟩ = some (.string sy) := hh.2.1.2.2.1; have r4 : wS.cell? ⟨by_, oy + 3, none⟩ = some (.slice Ay ly.length cy) := hh.2.1.2.2.2; have r2 := hh.2.2.2; clear hh; go_simp; with_reducible rfl
              · go_simp; with_reducible rfl
              refine wpK_take0 (v := ?_) (a' := ?_) 12 rfl (by kernel_rfl) (by kernel_rfl) (by kernel_rfl) (by kernel_rfl) (fun _ _ _ h => h) ?_ ?_ ?_
              rotate_left 2
              · refine .inl ⟨by kernel_rfl, ?_⟩; intro wS hS; clear hS; go_simp; with_reducible rfl
              · go_simp; with_reducible rfl
              refine wpK_take0 (v := ?_) (a' := ?_) 13 rfl (by kernel_rfl) (by kernel_rfl) (by kernel_rfl) (by kernel_rfl) (fun _ _ _ h => h) ?_ ?_ ?_
              rotate_left 2
              · refine .inl ⟨by kernel_rfl, ?_⟩; intro wS hS; clear hS; go_simp; with_reducible rfl
              · go_simp; with_reducible rfl
              refine wpK_take0 (v := ?_) (a' := ?_) 14 rfl (by kernel_rfl) (by kernel_rfl) (by kernel_rfl) (by kernel_rfl) (fun _ _ _ h => h) ?_ ?_ ?_
              rotate_left 2
              · refine .inl ⟨by kernel_rfl, ?_⟩; intro wS hS; clear hS; go_simp; with_reducible rfl
              · go_simp; with_reducible rfl
              refine wpK_take0 (v := ?_) (a' := ?_) 15 rfl (by kernel_rfl) (by kernel_rfl) (by kernel_rfl) (by kernel_rfl) (fun _ _ _ h => h) ?_ ?_ ?_
              rotate_left 2
              · refine .inl ⟨by kernel_rfl, ?_⟩; intro wS hS; clear hS; go_simp; with_reducible rfl
              · go_simp; with_reducible rfl
              refine wpK_take (v := ?_) (a' := ?_) 16 rfl (by kernel_rfl) (by kernel_rfl) (by kernel_rfl) (by kernel_rfl) (by kernel_rfl) (fun _ _ _ h => h) (below_drew1 Hw11.out) ?_ ?_ ?_
              rotate_left 2
              · refine .inl ⟨by kernel_rfl, ?_⟩; intro wS hS; have hh := HX.out _ (HXW.out _ hS); have q0 : wS.cell? ⟨bx, ox, none⟩ = some (.int .i64 kx) := hh.1.1; have q1 : wS.cell? ⟨bx, ox + 1, none⟩ = some (.int .i64 nx) := hh.1.2.1; have q2 := hh.2.2.1; have q3 : wS.cell? ⟨bx, ox + 2, none⟩ = some (.string sx) := hh.1.2.2.1; have q4 : wS.cell? ⟨bx, ox + 3, none⟩ = some (.slice Ax lx.length cx) := hh.1.2.2.2; have r0 : wS.cell? ⟨by_, oy, none⟩ = some (.int .i64 ky) := hh.2.1.1; have r1 : wS.cell? ⟨by_, oy + 1, none⟩ = some (.int .i64 ny) := hh.2.1.2.1; have r3 : wS.cell? ⟨by_, oy + 2, none⟩ = some (.string sy) := hh.2.1.2.2.1; have r4 : wS.cell? ⟨by_, oy + 3, none⟩ = some (.slice Ay ly.length cy) := hh.2.1.2.2.2; have r2 := hh.2.2.2; clear hh; go_simp; with_reducible rfl
              · go_simp; with_reducible rfl
              refine wpK_take0 (v := ?_) (a' := ?_) 17 rfl (by kernel_rfl) (by kernel_rfl) (by kernel_rfl) (by kernel_rfl) (fun _ _ _ h => h) ?_ ?_ ?_
              rotate_left 2
              · refine .inl ⟨by kernel_rfl, ?_⟩; intro wS hS; clear hS; go_simp; with_reducible rfl
              · go_simp; with_reducible rfl
              refine wpK_take (v := ?_) (a' := ?_) 18 rfl (by kernel_rfl) (by kernel_rfl) (by kernel_rfl) (by kernel_rfl) (by kernel_rfl) (fun _ _ _ h => h) (below_drew1 Hw11.out) ?_ ?_ ?_
              rotate_left 2
              · refine .inl ⟨by kernel_rfl, ?_⟩; intro wS hS; have hh := HX.out _ (HXW.out _ hS); have q0 : wS.cell? ⟨bx, ox, none⟩ = some (.int .i64 kx) := hh.1.1; have q1 : wS.cell? ⟨bx, ox + 1, none⟩ = some (.int .i64 nx) := hh.1.2.1; have q2 := hh.2.2.1; have q3 : wS.cell? ⟨bx, ox + 2, none⟩ = some (.string sx) := hh.1.2.2.1; have q4 : wS.cell? ⟨bx, ox + 3, none⟩ = some (.slice Ax lx.length cx) := hh.1.2.2.2; have r0 : wS.cell? ⟨by_, oy, none⟩ = some (.int .i64 ky) := hh.2.1.1; have r1 : wS.cell? ⟨by_, oy + 1, none⟩ = some (.int .i64 ny) := hh.2.1.2.1; have r3 : wS.cell? ⟨by_, oy + 2, none⟩ = some (.string sy) := hh.2.1.2.2.1; have r4 : wS.cell? ⟨by_, oy + 3, none⟩ = some (.slice Ay ly.length cy) := hh.2.1.2.2.2; have r2 := hh.2.2.2; clear hh; go_simp; with_reducible rfl
              · go_simp; with_reducible rfl
              refine wpK_take0 (v := ?_) (a' := ?_) 19 rfl (by kernel_rfl) (by kernel_rfl) (by kernel_rfl) (by kernel_rfl) (fun _ _ _ h => h) ?_ ?_ ?_
              rotate_left 2
              · refine .inl ⟨by kernel_rfl, ?_⟩; intro wS hS; clear hS; go_simp; with_reducible rfl
              · go_simp; with_reducible rfl
              refine wpK_take0 (v := ?_) (a' := ?_) 20 rfl (by kernel_rfl) (by kernel_rfl) (by kernel_rfl) (by kernel_rfl) (fun _ _ _ h => h) ?_ ?_ ?_
              rotate_left 2
              · refine .inl ⟨by kernel_rfl, ?_⟩; intro wS hS; clear hS; go_simp; with_reducible rfl
              · go_simp; with_reducible rfl
              refine wpK_take0 (v := ?_) (a' := ?_) 21 rfl (by kernel_rfl) (by kernel_rfl) (by kernel_rfl) (by kernel_rfl) (fun _ _ _ h => h) ?_ ?_ ?_
              rotate_left 2
              · refine .inl ⟨by kernel_rfl, ?_⟩; intro wS hS; clear hS; go_simp; with_reducible rfl
              · go_simp; with_reducible rfl
              refine wpK_take0 (v := ?_) (a' := ?_) 22 rfl (by kernel_rfl) (by kernel_rfl) (by kernel_rfl) (by kernel_rfl) (fun _ _ _ h => h) ?_ ?_ ?_
              rotate_left 2
              · refine .inl ⟨by kernel_rfl, ?_⟩; intro wS hS; clear hS; go_simp; with_reducible rfl
              · go_simp; with_reducible rfl
              refine wpK_end (by kernel_rfl) ?_ _
              change Exit.then _ _ _ _ w11.drew
              obtain ⟨w12, hw12⟩ : ∃ x, x = w11.drew := ⟨_, rfl⟩
              rw [← hw12]
              have Hw12 : Hid (Below wr.heap.size wr w12) := Lib.hid (by rw [hw12]; exact below_drew1 Hw11.out)
              clear hw12
              have hh := HX.out w12 (HXW.out _ Hw12.out)
              have p1 : w12.cell? ⟨bx, ox + 1, none⟩ = some (.int .i64 nx) := hh.1.2.1
              have p3 : w12.cell? ⟨bx, ox + 3, none⟩ = some (.slice Ax lx.length cx) := hh.1.2.2.2
              have p7 : w12.cell? ⟨by_, oy + 3, none⟩ = some (.slice Ay ly.length cy) := hh.2.1.2.2.2
              clear hh
              have HT : Hid (TAt wB wB.heap.size σ L (.mk kx nx sx lx) (cellsP (⟨.mk kx nx sx lx, bx, ox, .mk ky ny sy ly, by_, oy⟩ :: L)) (.slice (some ⟨g, off, none⟩) (L.length + 1) cap) w12) := Lib.hid (HAT.out.on Hw12.out)
              obtain ⟨wt, hwt⟩ : ∃ x, x = w12 := ⟨_, rfl⟩
              subst hwt
              go_wp2_with fail
              go_meet
              exact ⟨_, HLOC.out, HT.out, HLL.out, hll⟩
            · have HLOC : Hid (loc va vb σ (.mk kx nx sx lx) (.mk ky ny sy ly) = none) := Lib.hid ((loc_free HK1.out (by have := HNV.out; omega)).trans (if_neg fun h => hnn h.2.2.symm))
              have hne : (IntKind.i64.wrap (nx - va) != IntKind.i64.wrap (ny - vb)) = true := by
                rw [hw1, hw2]; simp [hnn]
              clear hw1 hw2
              refine wp_region_K (fun w' => Below wr.heap.size wr w') (fun j => true) (by kernel_rfl) ?_
              refine wpK_take0 (v := ?_) (a' := ?_) 0 rfl (by kernel_rfl) (by kernel_rfl) (by kernel_rfl) (by kernel_rfl) (fun _ _ _ h => h) ?_ ?_ ?_
              rotate_left 2
              · refine .inl ⟨by kernel_rfl, ?_⟩; intro wS hS; clear hS; go_simp; with_reducible rfl
              · go_simp; with_reducible rfl
              refine wpK_take0 (v := ?_) (a' := ?_) 1 rfl (by kernel_rfl) (by kernel_rfl) (by kernel_rfl) (by kernel_rfl) (fun _ _ _ h => h) ?_ ?_ ?_
              rotate_left 2
              · refine .inl ⟨by kernel_rfl, ?_⟩; intro wS hS; clear hS; go_simp; with_reducible rfl
              · go_simp; with_reducible rfl
              refine wpK_take0 (v := ?_) (a' := ?_) 2 rfl (by kernel_rfl) (by kernel_rfl) (by kernel_rfl) (by kernel_rfl) (fun _ _ _ h => h) ?_ ?_ ?_
              rotate_left 2
              · refine .inl ⟨by kernel_rfl, ?_⟩; intro wS hS; clear hS; go_simp; with_reducible rfl
              · go_simp; with_reducible rfl
              refine wpK_take (v := ?_) (a' := ?_) 3 rfl (by kernel_rfl) (by kernel_rfl) (by kernel_rfl) (by kernel_rfl) (by kernel_rfl) (fun _ _ _ h => h) (below_drew1 Hw11.out) ?_ ?_ ?_
              rotate_left 2
              · refine .inl ⟨by kernel_rfl, ?_⟩; intro wS hS; have hh := HX.out _ (HXW.out _ hS); have q0 : wS.cell? ⟨bx, ox, none⟩ = some (.int .i64 kx) := hh.1.1; have q1 : wS.cell? ⟨bx, ox + 1, none⟩ = some (.int .i64 nx) := hh.1.2.1; have q2 := hh.2.2.1; have q3 : wS.cell? ⟨bx, ox + 2, none⟩ = some (.string sx) := hh.1.2.2.1; have q4 : wS.cell? ⟨bx, ox + 3, none⟩ = some (.slice Ax lx.length cx) := hh.1.2.2.2; have r0 : wS.cell? ⟨by_, oy, none⟩ = some (.int .i64 ky) := hh.2.1.1; have r1 : wS.cell? ⟨by_, oy + 1, none⟩ = some (.int .i64 ny) := hh.2.1.2.1; have r3 : wS.cell? ⟨by_, oy + 2, none⟩ = some (.string sy) := hh.2.1.2.2.1; have r4 : wS.cell? ⟨by_, oy + 3, none⟩ = some (.slice Ay ly.length cy) := hh.2.1.2.2.2; have r2 := hh.2.2.2; clear hh; go_simp; with_reducible rfl
              · go_simp; with_reducible rfl
              refine wpK_take0 (v := ?_) (a' := ?_) 4 rfl (by kernel_rfl) (by kernel_rfl) (by kernel_rfl) (by kernel_rfl) (fun _ _ _ h => h) ?_ ?_ ?_
              rotate_left 2
              · refine .inl ⟨by kernel_rfl, ?_⟩; intro wS hS; clear hS; go_simp; with_reducible rfl
              · go_simp; with_reducible rfl
              refine wpK_take0 (v := ?_) (a' := ?_) 5 rfl (by kernel_rfl) (by kernel_rfl) (by kernel_rfl) (by kernel_rfl) (fun _ _ _ h => h) ?_ ?_ ?_
              rotate_left 2
              · refine .inl ⟨by kernel_rfl, ?_⟩; intro wS hS; clear hS; go_simp; with_reducible rfl
              · go_simp; with_reducible rfl
              refine wpK_take0 (v := ?_) (a' := ?_) 6 rfl (by kernel_rfl) (by kernel_rfl) (by kernel_rfl) (by kernel_rfl) (fun _ _ _ h => h) ?_ ?_ ?_
              rotate_left 2
              · refine .inl ⟨by kernel_rfl, ?_⟩; intro wS hS; clear hS; go_simp; with_reducible rfl
              · go_simp; with_reducible rfl
              refine wpK_take0 (v := ?_) (a' := ?_) 7 rfl (by kernel_rfl) (by kernel_rfl) (by kernel_rfl) (by kernel_rfl) (fun _ _ _ h => h) ?_ ?_ ?_
              rotate_left 2
              · refine .inl ⟨by kernel_rfl, ?_⟩; intro wS hS; clear hS; go_simp; with_reducible rfl
              · go_simp; with_reducible rfl
              refine wpK_take0 (v := ?_) (a' := ?_) 8 rfl (by kernel_rfl) (by kernel_rfl) (by kernel_rfl) (by kernel_rfl) (fun _ _ _ h => h) ?_ ?_ ?_
              rotate_left 2
              · refine .inl ⟨by kernel_rfl, ?_⟩; intro wS hS; clear hS; go_simp; with_reducible rfl
              · go_simp; with_reducible rfl
              refine wpK_take (v := ?_) (a' := ?_) 9 rfl (by kernel_rfl) (by kernel_rfl) (by kernel_rfl) (by kernel_rfl) (by kernel_rfl) (fun _ _ _ h => h) (below_drew1 Hw11.out) ?_ ?_ ?_
              rotate_left 2
              · refine .inl ⟨by kernel_rfl, ?_⟩; intro wS hS; have hh := HX.out _ (HXW.out _ hS); have q0 : wS.cell? ⟨bx, ox, none⟩ = some (.int .i64 kx) := hh.1.1; have q1 : wS.cell? ⟨bx, ox + 1, none⟩ = some (.int .i64 nx) := hh.1.2.1; have q2 := hh.2.2.1; have q3 : wS.cell? ⟨bx, ox + 2, none⟩ = some (.string sx) := hh.1.2.2.1; have q4 : wS.cell? ⟨bx, ox + 3, none⟩ = some (.slice Ax lx.length cx) := hh.1.2.2.2; have r0 : wS.cell? ⟨by_, oy, none⟩ = some (.int .i64 ky) := hh.2.1.1; have r1 : wS.cell? ⟨by_, oy + 1, none⟩ = some (.int .i64 ny) := hh.2.1.2.1; have r3 : wS.cell? ⟨by_, oy + 2, none⟩ = some (.string sy) := hh.2.1.2.2.1; have r4 : wS.cell? ⟨by_, oy + 3, none⟩ = some (.slice Ay ly.length cy) := hh.2.1.2.2.2; have r2 := hh.2.2.2; clear hh; go_simp; with_reducible rfl
              · go_simp; with_reducible rfl
              refine wpK_take0 (v := ?_) (a' := ?_) 10 rfl (by kernel_rfl) (by kernel_rfl) (by kernel_rfl) (by kernel_rfl) (fun _ _ _ h => h) ?_ ?_ ?_
              rotate_left 2
              · refine .inl ⟨by kernel_rfl, ?_⟩; intro wS hS; clear hS; go_simp; with_reducible rfl
              · go_simp; with_reducible rfl
              refine wpK_take (v := ?_) (a' := ?_) 11 rfl (by kernel_rfl) (by kernel_rfl) (by kernel_rfl) (by kernel_rfl) (by kernel_rfl) (fun _ _ _ h => h) (below_drew1 Hw11.out) ?_ ?_ ?_
              rotate_left 2
              · refine .inl ⟨by kernel_rfl, ?_⟩; intro wS hS; have hh := HX.out _ (HXW.out _ hS); have q0 : wS.cell? ⟨bx, ox, none⟩ = some (.int .i64 kx) := hh.1.1; have q1 : wS.cell? ⟨bx, ox + 1, none⟩ = some (.int .i64 nx) := hh.1.2.1; have q2 := hh.2.2.1; have q3 : wS.cell? ⟨bx, ox + 2, none⟩ = some (.string sx) := hh.1.2.2.1; have q4 : wS.cell? ⟨bx, ox + 3, none⟩ = some (.slice Ax lx.length cx) := hh.1.2.2.2; have r0 : wS.cell? ⟨by_, oy, none⟩ = some (.int .i64 ky) := hh.2.1.1; have r1 : wS.cell? ⟨by_, oy + 1, none⟩ = some (.int .i64 ny) := hh.2.1.2.1; have r3 : wS.cell? ⟨by_, oy + 2, none⟩ = some (.string sy) := hh.2.1.2.2.1; have r4 : wS.cell? ⟨by_, oy + 3, none⟩ = some (.slice Ay ly.length cy) := hh.2.1.2.2.2; have r2 := hh.2.2.2; clear hh; go_simp; with_reducible rfl
              · go_simp; with_reducible rfl
              refine wpK_take0 (v := ?_) (a' := ?_) 12 rfl (by kernel_rfl) (by kernel_rfl) (by kernel_rfl) (by kernel_rfl) (fun _ _ _ h => h) ?_ ?_ ?_
              rotate_left 2
              · refine .inl ⟨by kernel_rfl, ?_⟩; intro wS hS; clear hS; go_simp; with_reducible rfl
              · go_simp; with_reducible rfl
              refine wpK_take0 (v := ?_) (a' := ?_) 13 rfl (by kernel_rfl) (by kernel_rfl) (by kernel_rfl) (by kernel_rfl) (fun _ _ _ h => h) ?_ ?_ ?_
              rotate_left 2
              · refine .inl ⟨by kernel_rfl, ?_⟩; intro wS hS; clear hS; go_simp; with_reducible rfl
              · go_simp; with_reducible rfl
              refine wpK_take0 (v := ?_) (a' := ?_) 14 rfl (by kernel_rfl) (by kernel_rfl) (by kernel_rfl) (by kernel_rfl) (fun _ _ _ h => h) ?_ ?_ ?_
              rotate_left 2
              · refine .inl ⟨by kernel_rfl, ?_⟩; intro wS hS; clear hS; go_simp; with_reducible rfl
              · go_simp; with_reducible rfl
              refine wpK_take0 (v := ?_) (a' := ?_) 15 rfl (by kernel_rfl) (by kernel_rfl) (by kernel_rfl) (by kernel_rfl) (fun _ _ _ h => h) ?_ ?_ ?_
              rotate_left 2
              · refine .inl ⟨by kernel_rfl, ?_⟩; intro wS hS; clear hS; go_simp; with_reducible rfl
              · go_simp; with_reducible rfl
              refine wpK_take (v := ?_) (a' := ?_) 16 rfl (by kernel_rfl) (by kernel_rfl) (by kernel_rfl) (by kernel_rfl) (by kernel_rfl) (fun _ _ _ h => h) (below_drew1 Hw11.out) ?_ ?_ ?_
              rotate_left 2
              · refine .inl ⟨by kernel_rfl, ?_⟩; intro wS hS; have hh := HX.out _ (HXW.out _ hS); have q0 : wS.cell? ⟨bx, ox, none⟩ = some (.int .i64 kx) := hh.1.1; have q1 : wS.cell? ⟨bx, ox + 1, none⟩ = some (.int .i64 nx) := hh.1.2.1; have q2 := hh.2.2.1; have q3 : wS.cell? ⟨bx, ox + 2, none⟩ = some (.string sx) := hh.1.2.2.1; have q4 : wS.cell? ⟨bx, ox + 3, none⟩ = some (.slice Ax lx.length cx) := hh.1.2.2.2; have r0 : wS.cell? ⟨by_, oy, none⟩ = some (.int .i64 ky) := hh.2.1.1; have r1 : wS.cell? ⟨by_, oy + 1, none⟩ = some (.int .i64 ny) := hh.2.1.2.1; have r3 : wS.cell? ⟨by_, oy + 2, none⟩ = some (.string sy) := hh.2.1.2.2.1; have r4 : wS.cell? ⟨by_, oy + 3, none⟩ = some (.slice Ay ly.length cy) := hh.2.1.2.2.2; have r2 := hh.2.2.2; clear hh; go_simp; with_reducible rfl
              · go_simp; with_reducible rfl
              refine wpK_take0 (v := ?_) (a' := ?_) 17 rfl (by kernel_rfl) (by kernel_rfl) (by kernel_rfl) (by kernel_rfl) (fun _ _ _ h => h) ?_ ?_ ?_
              rotate_left 2
              · refine .inl ⟨by kernel_rfl, ?_⟩; intro wS hS; clear hS; go_simp; with_reducible rfl
              · go_simp; with_reducible rfl
              refine wpK_take (v := ?_) (a' := ?_) 18 rfl (by kernel_rfl) (by kernel_rfl) (by kernel_rfl) (by kernel_rfl) (by kernel_rfl) (fun _ _ _ h => h) (below_drew1 Hw11.out) ?_ ?_ ?_
              rotate_left 2
              · refine .inl ⟨by kernel_rfl, ?_⟩; intro wS hS; have hh := HX.out _ (HXW.out _ hS); have q0 : wS.cell? ⟨bx, ox, none⟩ = some (.int .i64 kx) := hh.1.1; have q1 : wS.cell? ⟨bx, ox + 1, none⟩ = some (.int .i64 nx) := hh.1.2.1; have q2 := hh.2.2.1; have q3 : wS.cell? ⟨bx, ox + 2, none⟩ = some (.string sx) := hh.1.2.2.1; have q4 : wS.cell? ⟨bx, ox + 3, none⟩ = some (.slice Ax lx.length cx) := hh.1.2.2.2; have r0 : wS.cell? ⟨by_, oy, none⟩ = some (.int .i64 ky) := hh.2.1.1; have r1 : wS.cell? ⟨by_, oy + 1, none⟩ = some (.int .i64 ny) := hh.2.1.2.1; have r3 : wS.cell? ⟨by_, oy + 2, none⟩ = some (.string sy) := hh.2.1.2.2.1; have r4 : wS.cell? ⟨by_, oy + 3, none⟩ = some (.slice Ay ly.length cy) := hh.2.1.2.2.2; have r2 := hh.2.2.2; clear hh; go_simp; with_reducible rfl
              · go_simp; with_reducible rfl
              refine wpK_take0 (v := ?_) (a' := ?_) 19 rfl (by kernel_rfl) (by kernel_rfl) (by kernel_rfl) (by kernel_rfl) (fun _ _ _ h => h) ?_ ?_ ?_
              rotate_left 2
              · refine .inl ⟨by kernel_rfl, ?_⟩; intro wS hS; clear hS; go_simp; with_reducible rfl
              · go_simp; with_reducible rfl
              refine wpK_take0 (v := ?_) (a' := ?_) 20 rfl (by kernel_rfl) (by kernel_rfl) (by kernel_rfl) (by kernel_rfl) (fun _ _ _ h => h) ?_ ?_ ?_
              rotate_left 2
              · refine .inl ⟨by kernel_rfl, ?_⟩; intro wS hS; clear hS; go_simp; with_reducible rfl
              · go_simp; with_reducible rfl
              refine wpK_take0 (v := ?_) (a' := ?_) 21 rfl (by kernel_rfl) (by kernel_rfl) (by kernel_rfl) (by kernel_rfl) (fun _ _ _ h => h) ?_ ?_ ?_
              rotate_left 2
              · refine .inl ⟨by kernel_rfl, ?_⟩; intro wS hS; clear hS; go_simp; with_reducible rfl
              · go_simp; with_reducible rfl
              refine wpK_take0 (v := ?_) (a' := ?_) 22 rfl (by kernel_rfl) (by kernel_rfl) (by kernel_rfl) (by kernel_rfl) (fun _ _ _ h => h) ?_ ?_ ?_
              rotate_left 2
              · refine .inl ⟨by kernel_rfl, ?_⟩; intro wS hS; clear hS; go_simp; with_reducible rfl
              · go_simp; with_reducible rfl
              refine wpK_end (by kernel_rfl) ?_ _
              change Exit.then _ _ _ _ w11.drew
              obtain ⟨w12, hw12⟩ : ∃ x, x = w11.drew := ⟨_, rfl⟩
              rw [← hw12]
              have Hw12 : Hid (Below wr.heap.size wr w12) := Lib.hid (by rw [hw12]; exact below_drew1 Hw11.out)
              clear hw12
              go_wp2
              try rw [Exit.noGoto_ret]
              go_ret
              exact ⟨ret_bool (HAT.out.stop HLOC.out).symm, HFIN.out.trans (Hw12.out.mono HFIN.out.size)⟩
          · have hnk : (kx != ky) = true := by rw [HK1.out]; simpa using fun h : (1 : Int) = ky => hky h.symm
            have HLOC : Hid (loc va vb σ (.mk kx nx sx lx) (.mk ky ny sy ly) = none) := Lib.hid ((loc_free HK1.out (by have := HNV.out; omega)).trans (if_neg fun h => hky h.1))
            go_wp2
            refine wp_region_K (fun w' => Below wr.heap.size wr w') (fun j => true) (by kernel_rfl) ?_
            refine wpK_take0 (v := ?_) (a' := ?_) 0 rfl (by kernel_rfl) (by kernel_rfl) (by kernel_rfl) (by kernel_rfl) (fun _ _ _ h => h) ?_ ?_ ?_
            rotate_left 2
            · refine .inl ⟨by kernel_rfl, ?_⟩; intro wS hS; clear hS; go_simp; with_reducible rfl
            · go_simp; with_reducible rfl
            refine wpK_take0 (v := ?_) (a' := ?_) 1 rfl (by kernel_rfl) (by kernel_rfl) (by kernel_rfl) (by kernel_rfl) (fun _ _ _ h => h) ?_ ?_ ?_
            rotate_left 2
            · refine .inl ⟨by kernel_rfl, ?_⟩; intro wS hS; clear hS; go_simp; with_reducible rfl
            · go_simp; with_reducible rfl
            refine wpK_take0 (v := ?_) (a' := ?_) 2 rfl (by kernel_rfl) (by kernel_rfl) (by kernel_rfl) (by kernel_rfl) (fun _ _ _ h => h) ?_ ?_ ?_
            rotate_left 2
            · refine .inl ⟨by kernel_rfl, ?_⟩; intro wS hS; clear hS; go_simp; with_reducible rfl
            · go_simp; with_reducible rfl
            refine wpK_take (v := ?_) (a' := ?_) 3 rfl (by kernel_rfl) (by kernel_rfl) (by kernel_rfl) (by kernel_rfl) (by kernel_rfl) (fun _ _ _ h => h) (below_drew1 Hw7.out) ?_ ?_ ?_
            rotate_left 2
            · refine .inl ⟨by kernel_rfl, ?_⟩; intro wS hS; have hh := HX.out _ (HXW.out _ hS); have q0 : wS.cell? ⟨bx, ox, none⟩ = some (.int .i64 kx) := hh.1.1; have q1 : wS.cell? ⟨bx, ox + 1, none⟩ = some (.int .i64 nx) := hh.1.2.1; have q2 := hh.2.2.1; have q3 : wS.cell? ⟨bx, ox + 2, none⟩ = some (.string sx) := hh.1.2.2.1; have q4 : wS.cell? ⟨bx, ox + 3, none⟩ = some (.slice Ax lx.length cx) := hh.1.2.2.2; have r0 : wS.cell? ⟨by_, oy, none⟩ = some (.int .i64 ky) := hh.2.1.1; have r1 : wS.cell? ⟨by_, oy + 1, none⟩ = some (.int .i64 ny) := hh.2.1.2.1; have r3 : wS.cell? ⟨by_, oy + 2, none⟩ = some (.string sy) := hh.2.1.2.2.1; have r4 : wS.cell? ⟨by_, oy + 3, none⟩ = some (.slice Ay ly.length cy) := hh.2.1.2.2.2; have r2 := hh.2.2.2; clear hh; go_simp; with_reducible rfl
            · go_simp; with_reducible rfl
            refine wpK_take0 (v := ?_) (a' := ?_) 4 rfl (by kernel_rfl) (by kernel_rfl) (by kernel_rfl) (by kernel_rfl) (fun _ _ _ h => h) ?_ ?_ ?_
            rotate_left 2
            · refine .inl ⟨by kernel_rfl, ?_⟩; intro wS hS; clear hS; go_simp; with_reducible rfl
            · go_simp; with_reducible rfl
            refine wpK_take0 (v := ?_) (a' := ?_) 5 rfl (by kernel_rfl) (by kernel_rfl) (by kernel_rfl) (by kernel_rfl) (fun _ _ _ h => h) ?_ ?_ ?_
            rotate_left 2
            · refine .inl ⟨by kernel_rfl, ?_⟩; intro wS hS; clear hS; go_simp; with_reducible rfl
            · go_simp; with_reducible rfl
            refine wpK_take0 (v := ?_) (a' := ?_) 6 rfl (by kernel_rfl) (by kernel_rfl) (by kernel_rfl) (by kernel_rfl) (fun _ _ _ h => h) ?_ ?_ ?_
            rotate_left 2
            · refine .inl ⟨by kernel_rfl, ?_⟩; intro wS hS; clear hS; go_simp; with_reducible rfl
            · go_simp; with_reducible rfl
            refine wpK_take (v := ?_) (a' := ?_) 7 rfl (by kernel_rfl) (by kernel_rfl) (by kernel_rfl) (by kernel_rfl) (by kernel_rfl) (fun _ _ _ h => h) (below_drew1 Hw7.out) ?_ ?_ ?_
            rotate_left 2
            · refine .inl ⟨by kernel_rfl, ?_⟩; intro wS hS; have hh := HX.out _ (HXW.out _ hS); have q0 : wS.cell? ⟨bx, ox, none⟩ = some (.int .i64 kx) := hh.1.1; have q1 : wS.cell? ⟨bx, ox + 1, none⟩ = some (.int .i64 nx) := hh.1.2.1; have q2 := hh.2.2.1; have q3 : wS.cell? ⟨bx, ox + 2, none⟩ = some (.string sx) := hh.1.2.2.1; have q4 : wS.cell? ⟨bx, ox + 3, none⟩ = some (.slice Ax lx.length cx) := hh.1.2.2.2; have r0 : wS.cell? ⟨by_, oy, none⟩ = some (.int .i64 ky) := hh.2.1.1; have r1 : wS.cell? ⟨by_, oy + 1, none⟩ = some (.int .i64 ny) := hh.2.1.2.1; have r3 : wS.cell? ⟨by_, oy + 2, none⟩ = some (.string sy) := hh.2.1.2.2.1; have r4 : wS.cell? ⟨by_, oy + 3, none⟩ = some (.slice Ay ly.length cy) := hh.2.1.2.2.2; have r2 := hh.2.2.2; clear hh; go_simp; with_reducible rfl
            · go_simp; with_reducible rfl
            refine wpK_take0 (v := ?_) (a' := ?_) 8 rfl (by kernel_rfl) (by kernel_rfl) (by kernel_rfl) (by kernel_rfl) (fun _ _ _ h => h) ?_ ?_ ?_
            rotate_left 2
            · refine .inl ⟨by kernel_rfl, ?_⟩; intro wS hS; clear hS; go_simp; with_reducible rfl
            · go_simp; with_reducible rfl
            refine wpK_take0 (v := ?_) (a' := ?_) 9 rfl (by kernel_rfl) (by kernel_rfl) (by kernel_rfl) (by kernel_rfl) (fun _ _ _ h => h) ?_ ?_ ?_
            rotate_left 2
            · refine .inl ⟨by kernel_rfl, ?_⟩; intro wS hS; clear hS; go_simp; with_reducible rfl
            · go_simp; with_reducible rfl
            refine wpK_take0 (v := undef) (a' := ?_) 10 rfl (by kernel_rfl) (by kernel_rfl) (by kernel_rfl) (by kernel_rfl) (fun _ _ _ h => h) ?_ ?_ ?_
            rotate_left 1
            · exact .inr ⟨by kernel_rfl, rfl⟩
            · go_simp; with_reducible rfl
            refine wpK_take0 (v := undef) (a' := ?_) 11 rfl (by kernel_rfl) (by kernel_rfl) (by kernel_rfl) (by kernel_rfl) (fun _ _ _ h => h) ?_ ?_ ?_
            rotate_left 1
            · exact .inr ⟨by kernel_rfl, rfl⟩
            · go_simp; with_reducible rfl
            refine wpK_take0 (v := undef) (a' := ?_) 12 rfl (by kernel_rfl) (by kernel_rfl) (by kernel_rfl) (by kernel_rfl) (fun _ _ _ h => h) ?_ ?_ ?_
            rotate_left 1
            · exact .inr ⟨by kernel_rfl, rfl⟩
            · go_simp; with_reducible rfl
            refine wpK_take0 (v := undef) (a' := ?_) 13 rfl (by kernel_rfl) (by kernel_rfl) (by kernel_rfl) (by kernel_rfl) (fun _ _ _ h => h) ?_ ?_ ?_
            rotate_left 1
            · exact .inr ⟨by kernel_rfl, rfl⟩
            · go_simp; with_reducible rfl
            refine wpK_take0 (v := undef) (a' := ?_) 14 rfl (by kernel_rfl) (by kernel_rfl) (by kernel_rfl) (by kernel_rfl) (fun _ _ _ h => h) ?_ ?_ ?_
            rotate_left 1
            · exact .inr ⟨by kernel_rfl, rfl⟩
            · go_simp; with_reducible rfl
            refine wpK_take0 (v := undef) (a' := ?_) 15 rfl (by kernel_rfl) (by kernel_rfl) (by kernel_rfl) (by kernel_rfl) (fun _ _ _ h => h) ?_ ?_ ?_
            rotate_left 1
            · exact .inr ⟨by kernel_rfl, rfl⟩
            · go_simp; with_reducible rfl
            refine wpK_take0 (v := undef) (a' := ?_) 16 rfl (by kernel_rfl) (by kernel_rfl) (by kernel_rfl) (by kernel_rfl) (fun _ _ _ h => h) ?_ ?_ ?_
            rotate_left 1
            · exact .inr ⟨by kernel_rfl, rfl⟩
            · go_simp; with_reducible rfl
            refine wpK_take0 (v := undef) (a' := ?_) 17 rfl (by kernel_rfl) (by kernel_rfl) (by kernel_rfl) (by kernel_rfl) (fun _ _ _ h => h) ?_ ?_ ?_
            rotate_left 1
            · exact .inr ⟨by kernel_rfl, rfl⟩
            · go_simp; with_reducible rfl
            refine wpK_take0 (v := undef) (a' := ?_) 18 rfl (by kernel_rfl) (by kernel_rfl) (by kernel_rfl) (by kernel_rfl) (fun _ _ _ h => h) ?_ ?_ ?_
            rotate_left 1
            · exact .inr ⟨by kernel_rfl, rfl⟩
            · go_simp; with_reducible rfl
            refine wpK_take0 (v := ?_) (a' := ?_) 19 rfl (by kernel_rfl) (by kernel_rfl) (by kernel_rfl) (by kernel_rfl) (fun _ _ _ h => h) ?_ ?_ ?_
            rotate_left 2
            · refine .inl ⟨by kernel_rfl, ?_⟩; intro wS hS; clear hS; go_simp; with_reducible rfl
            · go_simp; with_reducible rfl
            refine wpK_take0 (v := ?_) (a' := ?_) 20 rfl (by kernel_rfl) (by kernel_rfl) (by kernel_rfl) (by kernel_rfl) (fun _ _ _ h => h) ?_ ?_ ?_
            rotate_left 2
            · refine .inl ⟨by kernel_rfl, ?_⟩; intro wS hS; clear hS; go_simp; with_reducible rfl
            · go_simp; with_reducible rfl
            refine wpK_take0 (v := undef) (a' := ?_) 21 rfl (by kernel_rfl) (by kernel_rfl) (by kernel_rfl) (by kernel_rfl) (fun _ _ _ h => h) ?_ ?_ ?_
            rotate_left 1
            · exact .inr ⟨by kernel_rfl, rfl⟩
            · go_simp; with_reducible rfl
            refine wpK_take0 (v := undef) (a' := ?_) 22 rfl (by kernel_rfl) (by kernel_rfl) (by kernel_rfl) (by kernel_rfl) (fun _ _ _ h => h) ?_ ?_ ?_
            rotate_left 1
            · exact .inr ⟨by kernel_rfl, rfl⟩
            · go_simp; with_reducible rfl
            refine wpK_take0 (v := undef) (a' := ?_) 23 rfl (by kernel_rfl) (by kernel_rfl) (by kernel_rfl) (by kernel_rfl) (fun _ _ _ h => h) ?_ ?_ ?_
            rotate_left 1
            · exact .inr ⟨by kernel_rfl, rfl⟩
            · go_simp; with_reducible rfl
            refine wpK_take0 (v := undef) (a' := ?_) 24 rfl (by kernel_rfl) (by kernel_rfl) (by kernel_rfl) (by kernel_rfl) (fun _ _ _ h => h) ?_ ?_ ?_
            rotate_left 1
            · exact .inr ⟨by kernel_rfl, rfl⟩
            · go_simp; with_reducible rfl
            refine wpK_take0 (v := undef) (a' := ?_) 25 rfl (by kernel_rfl) (by kernel_rfl) (by kernel_rfl) (by kernel_rfl) (fun _ _ _ h => h) ?_ ?_ ?_
            rotate_left 1
            · exact .inr ⟨by kernel_rfl, rfl⟩
            · go_simp; with_reducible rfl
            refine wpK_take0 (v := undef) (a' := ?_) 26 rfl (by kernel_rfl) (by kernel_rfl) (by kernel_rfl) (by kernel_rfl) (fun _ _ _ h => h) ?_ ?_ ?_
            rotate_left 1
            · exact .inr ⟨by kernel_rfl, rfl⟩
            · go_simp; with_reducible rfl
            refine wpK_take0 (v := undef) (a' := ?_) 27 rfl (by kernel_rfl) (by kernel_rfl) (by kernel_rfl) (by kernel_rfl) (fun _ _ _ h => h) ?_ ?_ ?_
            rotate_left 1
            · exact .inr ⟨by kernel_rfl, rfl⟩
            · go_simp; with_reducible rfl
            refine wpK_take0 (v := undef) (a' := ?_) 28 rfl (by kernel_rfl) (by kernel_rfl) (by kernel_rfl) (by kernel_rfl) (fun _ _ _ h => h) ?_ ?_ ?_
            rotate_left 1
            · exact .inr ⟨by kernel_rfl, rfl⟩
            · go_simp; with_reducible rfl
            refine wpK_take0 (v := undef) (a' := ?_) 29 rfl (by kernel_rfl) (by kernel_rfl) (by kernel_rfl) (by kernel_rfl) (fun _ _ _ h => h) ?_ ?_ ?_
            rotate_left 1
            · exact .inr ⟨by kernel_rfl, rfl⟩
            · go_simp; with_reducible rfl
            refine wpK_take0 (v := undef) (a' := ?_) 30 rfl (by kernel_rfl) (by kernel_rfl) (by kernel_rfl) (by kernel_rfl) (fun _ _ _ h => h) ?_ ?_ ?_
            rotate_left 1
            · exact .inr ⟨by kernel_rfl, rfl⟩
            · go_simp; with_reducible rfl
            refine wpK_take0 (v := undef) (a' := ?_) 31 rfl (by kernel_rfl) (by kernel_rfl) (by kernel_rfl) (by kernel_rfl) (fun _ _ _ h => h) ?_ ?_ ?_
            rotate_left 1
            · exact .inr ⟨by kernel_rfl, rfl⟩
            · go_simp; with_reducible rfl
            refine wpK_take0 (v := ?_) (a' := ?_) 32 rfl (by kernel_rfl) (by kernel_rfl) (by kernel_rfl) (by kernel_rfl) (fun _ _ _ h => h) ?_ ?_ ?_
            rotate_left 2
            · refine .inl ⟨by kernel_rfl, ?_⟩; intro wS hS; clear hS; go_simp; with_reducible rfl
            · go_simp; with_reducible rfl
            refine wpK_take0 (v := ?_) (a' := ?_) 33 rfl (by kernel_rfl) (by kernel_rfl) (by kernel_rfl) (by kernel_rfl) (fun _ _ _ h => h) ?_ ?_ ?_
            rotate_left 2
            · refine .inl ⟨by kernel_rfl, ?_⟩; intro wS hS; clear hS; go_simp; with_reducible rfl
            · go_simp; with_reducible rfl
            refine wpK_end (by kernel_rfl) ?_ _
            change Exit.then _ _ _ _ w7.drew
            obtain ⟨w11, hw11⟩ : ∃ x, x = w7.drew := ⟨_, rfl⟩
            rw [← hw11]
            have Hw11 : Hid (Below wr.heap.size wr w11) := Lib.hid (by rw [hw11]; exact below_drew1 Hw7.out)
            clear hw11
            go_wp2
            try rw [Exit.noGoto_ret]
            go_ret
            exact ⟨ret_bool (HAT.out.stop HLOC.out).symm, HFIN.out.trans (Hw11.out.mono HFIN.out.size)⟩
      · have e1 : (kx == 1) = false := by simpa using hkx
        have HK1 := Lib.hid hkx
        clear hkx
        refine wp_region_K (fun w' => Below wr.heap.size wr w') (fun j => true) (by kernel_rfl) ?_
        refine wpK_take0 (v := ?_) (a' := ?_) 0 rfl (by kernel_rfl) (by kernel_rfl) (by kernel_rfl) (by kernel_rfl) (fun _ _ _ h => h) ?_ ?_ ?_
        rotate_left 2
        · refine .inl ⟨by kernel_rfl, ?_⟩; intro wS hS; clear hS; go_simp; with_reducible rfl
        · go_simp; with_reducible rfl
        refine wpK_take0 (v := ?_) (a' := ?_) 1 rfl (by kernel_rfl) (by kernel_rfl) (by kernel_rfl) (by kernel_rfl) (fun _ _ _ h => h) ?_ ?_ ?_
        rotate_left 2
        · refine .inl ⟨by kernel_rfl, ?_⟩; intro wS hS; clear hS; go_simp; with_reducible rfl
        · go_simp; with_reducible rfl
        refine wpK_take0 (v := ?_) (a' := ?_) 2 rfl (by kernel_rfl) (by kernel_rfl) (by kernel_rfl) (by kernel_rfl) (fun _ _ _ h => h) ?_ ?_ ?_
        rotate_left 2
        · refine .inl ⟨by kernel_rfl, ?_⟩; intro wS hS; clear hS; go_simp; with_reducible rfl
        · go_simp; with_reducible rfl
        refine wpK_take (v := ?_) (a' := ?_) 3 rfl (by kernel_rfl) (by kernel_rfl) (by kernel_rfl) (by kernel_rfl) (by kernel_rfl) (fun _ _ _ h => h) (below_drew1 Hw6.out) ?_ ?_ ?_
        rotate_left 2
        · refine .inl ⟨by kernel_rfl, ?_⟩; intro wS hS; have hh := HX.out _ (HXW.out _ hS); have q0 : wS.cell? ⟨bx, ox, none⟩ = some (.int .i64 kx) := hh.1.1; have q1 : wS.cell? ⟨bx, ox + 1, none⟩ = some (.int .i64 nx) := hh.1.2.1; have q2 := hh.2.2.1; have q3 : wS.cell? ⟨bx, ox + 2, none⟩ = some (.string sx) := hh.1.2.2.1; have q4 : wS.cell? ⟨bx, ox + 3, none⟩ = some (.slice Ax lx.length cx) := hh.1.2.2.2; have r0 : wS.cell? ⟨by_, oy, none⟩ = some (.int .i64 ky) := hh.2.1.1; have r1 : wS.cell? ⟨by_, oy + 1, none⟩ = some (.int .i64 ny) := hh.2.1.2.1; have r3 : wS.cell? ⟨by_, oy + 2, none⟩ = some (.string sy) := hh.2.1.2.2.1; have r4 : wS.cell? ⟨by_, oy + 3, none⟩ = some (.slice Ay ly.length cy) := hh.2.1.2.2.2; have r2 := hh.2.2.2; clear hh; go_simp; with_reducible rfl
        · go_simp; with_reducible rfl
        refine wpK_take0 (v := ?_) (a' := ?_) 4 rfl (by kernel_rfl) (by kernel_rfl) (by kernel_rfl) (by kernel_rfl) (fun _ _ _ h => h) ?_ ?_ ?_
        rotate_left 2
        · refine .inl ⟨by kernel_rfl, ?_⟩; intro wS hS; clear hS; go_simp; with_reducible rfl
        · go_simp; with_reducible rfl
        refine wpK_take0 (v := ?_) (a' := ?_) 5 rfl (by kernel_rfl) (by kernel_rfl) (by kernel_rfl) (by kernel_rfl) (fun _ _ _ h => h) ?_ ?_ ?_
        rotate_left 2
        · refine .inl ⟨by kernel_rfl, ?_⟩; intro wS hS; clear hS; go_simp; with_reducible rfl
        · go_simp; with_reducible rfl
        refine wpK_take0 (v := undef) (a' := ?_) 6 rfl (by kernel_rfl) (by kernel_rfl) (by kernel_rfl) (by kernel_rfl) (fun _ _ _ h => h) ?_ ?_ ?_
        rotate_left 1
        · exact .inr ⟨by kernel_rfl, rfl⟩
        · go_simp; with_reducible rfl
        refine wpK_take0 (v := undef) (a' := ?_) 7 rfl (by kernel_rfl) (by kernel_rfl) (by kernel_rfl) (by kernel_rfl) (fun _ _ _ h => h) ?_ ?_ ?_
        rotate_left 1
        · exact .inr ⟨by kernel_rfl, rfl⟩
        · go_simp; with_reducible rfl
        refine wpK_take0 (v := undef) (a' := ?_) 8 rfl (by kernel_rfl) (by kernel_rfl) (by kernel_rfl) (by kernel_rfl) (fun _ _ _ h => h) ?_ ?_ ?_
        rotate_left 1
        · exact .inr ⟨by kernel_rfl, rfl⟩
        · go_simp; with_reducible rfl
        refine wpK_take0 (v := undef) (a' := ?_) 9 rfl (by kernel_rfl) (by kernel_rfl) (by kernel_rfl) (by kernel_rfl) (fun _ _ _ h => h) ?_ ?_ ?_
        rotate_left 1
        · exact .inr ⟨by kernel_rfl, rfl⟩
        · go_simp; with_reducible rfl
        refine wpK_take0 (v := undef) (a' := ?_) 10 rfl (by kernel_rfl) (by kernel_rfl) (by kernel_rfl) (by kernel_rfl) (fun _ _ _ h => h) ?_ ?_ ?_
        rotate_left 1
        · exact .inr ⟨by kernel_rfl, rfl⟩
        · go_simp; with_reducible rfl
        refine wpK_take0 (v := undef) (a' := ?_) 11 rfl (by kernel_rfl) (by kernel_rfl) (by kernel_rfl) (by kernel_rfl) (fun _ _ _ h => h) ?_ ?_ ?_
        rotate_left 1
        · exact .inr ⟨by kernel_rfl, rfl⟩
        · go_simp; with_reducible rfl
        refine wpK_take0 (v := undef) (a' := ?_) 12 rfl (by kernel_rfl) (by kernel_rfl) (by kernel_rfl) (by kernel_rfl) (fun _ _ _ h => h) ?_ ?_ ?_
        rotate_left 1
        · exact .inr ⟨by kernel_rfl, rfl⟩
        · go_simp; with_reducible rfl
        refine wpK_take0 (v := ?_) (a' := ?_) 13 rfl (by kernel_rfl) (by kernel_rfl) (by kernel_rfl) (by kernel_rfl) (fun _ _ _ h => h) ?_ ?_ ?_
        rotate_left 2
        · refine .inl ⟨by kernel_rfl, ?_⟩; intro wS hS; clear hS; go_simp; with_reducible rfl
        · go_simp; with_reducible rfl
        refine wpK_take0 (v := ?_) (a' := ?_) 14 rfl (by kernel_rfl) (by kernel_rfl) (by kernel_rfl) (by kernel_rfl) (fun _ _ _ h => h) ?_ ?_ ?_
        rotate_left 2
        · refine .inl ⟨by kernel_rfl, ?_⟩; intro wS hS; clear hS; go_simp; with_reducible rfl
        · go_simp; with_reducible rfl
        refine wpK_end (by kernel_rfl) ?_ _
        change Exit.then _ _ _ _ w6.drew
        obtain ⟨w7, hw7⟩ : ∃ x, x = w6.drew := ⟨_, rfl⟩
        rw [← hw7]
        have Hw7 : Hid (Below wr.heap.size wr w7) := Lib.hid (by rw [hw7]; exact below_drew1 Hw6.out)
        clear hw7
        go_wp2
        by_cases hky : kx = ky
        · have hnk : (kx != ky) = false := by simp [hky]
          by_cases hss : sx = sy
          · have hns : (sx.toList == sy.toList) = true := by simp [hss]
            by_cases hll0 : lx.length = ly.length
            · have hnl : ((lx.length : Int) != (ly.length : Int)) = false := by simp [hll0]
              have hll : lx.length ≤ ly.length := by omega
              have HLL : Hid (kx ≠ 1 → ly.length = lx.length) := Lib.hid fun _ => hll0.symm
              have HLOC : Hid (loc va vb σ (.mk kx nx sx lx) (.mk ky ny sy ly) = some σ) := Lib.hid ((loc_con HK1.out).trans (if_pos ⟨hky.symm, hss.symm, hll0.symm⟩))
              clear hky hss hll0
              refine wp_region_K (fun w' => Below wr.heap.size wr w') (fun j => true) (by kernel_rfl) ?_
              refine wpK_take0 (v := ?_) (a' := ?_) 0 rfl (by kernel_rfl) (by kernel_rfl) (by kernel_rfl) (by kernel_rfl) (fun _ _ _ h => h) ?_ ?_ ?_
              rotate_left 2
              · refine .inl ⟨by kernel_rfl, ?_⟩; intro wS hS; clear hS; go_simp; with_reducible rfl
              · go_simp; with_reducible rfl
              refine wpK_take0 (v := ?_) (a' := ?_) 1 rfl (by kernel_rfl) (by kernel_rfl) (by kernel_rfl) (by kernel_rfl) (fun _ _ _ h => h) ?_ ?_ ?_
              rotate_left 2
              · refine .inl ⟨by kernel_rfl, ?_⟩; intro wS hS; clear hS; go_simp; with_reducible rfl
              · go_simp; with_reducible rfl
              refine wpK_take0 (v := ?_) (a' := ?_) 2 rfl (by kernel_rfl) (by kernel_rfl) (by kernel_rfl) (by kernel_rfl) (fun _ _ _ h => h) ?_ ?_ ?_
              rotate_left 2
              · refine .inl ⟨by kernel_rfl, ?_⟩; intro wS hS; clear hS; go_simp; with_reducible rfl
              · go_simp; with_reducible rfl
              refine wpK_take (v := ?_) (a' := ?_) 3 rfl (by kernel_rfl) (by kernel_rfl) (by kernel_rfl) (by kernel_rfl) (by kernel_rfl) (fun _ _ _ h => h) (below_drew1 Hw7.out) ?_ ?_ ?_
              rotate_left 2
              · refine .inl ⟨by kernel_rfl, ?_⟩; intro wS hS; have hh := HX.out _ (HXW.out _ hS); have q0 : wS.cell? ⟨bx, ox, none⟩ = some (.int .i64 kx) := hh.1.1; have q1 : wS.cell? ⟨bx, ox + 1, none⟩ = some (.int .i64 nx) := hh.1.2.1; have q2 := hh.2.2.1; have q3 : wS.cell? ⟨bx, ox + 2, none⟩ = some (.string sx) := hh.1.2.2.1; have q4 : wS.cell? ⟨bx, ox + 3, none⟩ = some (.slice Ax lx.length cx) := hh.1.2.2.2; have r0 : wS.cell? ⟨by_, oy, none⟩ = some (.int .i64 ky) := hh.2.1.1; have r1 : wS.cell? ⟨by_, oy + 1, none⟩ = some (.int .i64 ny) := hh.2.1.2.1; have r3 : wS.cell? ⟨by_, oy + 2, none⟩ = some (.string sy) := hh.2.1.2.2.1; have r4 : wS.cell? ⟨by_, oy + 3, none⟩ = some (.slice Ay ly.length cy) := hh.2.1.2.2.2; have r2 := hh.2.2.2; clear hh; go_simp; with_reducible rfl
              · go_simp; with_reducible rfl
              refine wpK_take0 (v := ?_) (a' := ?_) 4 rfl (by kernel_rfl) (by kernel_rfl) (by kernel_rfl) (by kernel_rfl) (fun _ _ _ h => h) ?_ ?_ ?_
              rotate_left 2
              · refine .inl ⟨by kernel_rfl, ?_⟩; intro wS hS; clear hS; go_simp; with_reducible rfl
              · go_simp; with_reducible rfl
              refine wpK_take0 (v := ?_) (a' := ?_) 5 rfl (by kernel_rfl) (by kernel_rfl) (by kernel_rfl) (by kernel_rfl) (fun _ _ _ h => h) ?_ ?_ ?_
              rotate_left 2
              · refine .inl ⟨by kernel_rfl, ?_⟩; intro wS hS; clear hS; go_simp; with_reducible rfl
              · go_simp; with_reducible rfl
              refine wpK_take0 (v := ?_) (a' := ?_) 6 rfl (by kernel_rfl) (by kernel_rfl) (by kernel_rfl) (by kernel_rfl) (fun _ _ _ h => h) ?_ ?_ ?_
              rotate_left 2
              · refine .inl ⟨by kernel_rfl, ?_⟩; intro wS hS; clear hS; go_simp; with_reducible rfl
              · go_simp; with_reducible rfl
              refine wpK_take (v := ?_) (a' := ?_) 7 rfl (by kernel_rfl) (by kernel_rfl) (by kernel_rfl) (by kernel_rfl) (by kernel_rfl) (fun _ _ _ h => h) (below_drew1 Hw7.out) ?_ ?_ ?_
              rotate_left 2
              · refine .inl ⟨by kernel_rfl, ?_⟩; intro wS hS; have hh := HX.out _ (HXW.out _ hS); have q0 : wS.cell? ⟨bx, ox, none⟩ = some (.int .i64 kx) := hh.1.1; have q1 : wS.cell? ⟨bx, ox + 1, none⟩ = some (.int .i64 nx) := hh.1.2.1; have q2 := hh.2.2.1; have q3 : wS.cell? ⟨bx, ox + 2, none⟩ = some (.string sx) := hh.1.2.2.1; have q4 : wS.cell? ⟨bx, ox + 3, none⟩ = some (.slice Ax lx.length cx) := hh.1.2.2.2; have r0 : wS.cell? ⟨by_, oy, none⟩ = some (.int .i64 ky) := hh.2.1.1; have r1 : wS.cell? ⟨by_, oy + 1, none⟩ = some (.int .i64 ny) := hh.2.1.2.1; have r3 : wS.cell? ⟨by_, oy + 2, none⟩ = some (.string sy) := hh.2.1.2.2.1; have r4 : wS.cell? ⟨by_, oy + 3, none⟩ = some (.slice Ay ly.length cy) := hh.2.1.2.2.2; have r2 := hh.2.2.2; clear hh; go_simp; with_reducible rfl
              · go_simp; with_reducible rfl
              refine wpK_take0 (v := ?_) (a' := ?_) 8 rfl (by kernel_rfl) (by kernel_rfl) (by kernel_rfl) (by kernel_rfl) (fun _ _ _ h => h) ?_ ?_ ?_
              rotate_left 2
              · refine .inl ⟨by kernel_rfl, ?_⟩; intro wS hS; clear hS; go_simp; with_reducible rfl
              · go_simp; with_reducible rfl
              refine wpK_take0 (v := ?_) (a' := ?_) 9 rfl (by kernel_rfl) (by kernel_rfl) (by kernel_rfl) (by kernel_rfl) (fun _ _ _ h => h) ?_ ?_ ?_
              rotate_left 2
              · refine .inl ⟨by kernel_rfl, ?_⟩; intro wS hS; clear hS; go_simp; with_reducible rfl
              · go_simp; with_reducible rfl
              refine wpK_take0 (v := ?_) (a' := ?_) 10 rfl (by kernel_rfl) (by kernel_rfl) (by kernel_rfl) (by kernel_rfl) (fun _ _ _ h => h) ?_ ?_ ?_
              rotate_left 2
              · refine .inl ⟨by kernel_rfl, ?_⟩; intro wS hS; clear hS; go_simp; with_reducible rfl
              · go_simp; with_reducible rfl
              refine wpK_take0 (v := ?_) (a' := ?_) 11 rfl (by kernel_rfl) (by kernel_rfl) (by kernel_rfl) (by kernel_rfl) (fun _ _ _ h => h) ?_ ?_ ?_
              rotate_left 2
              · refine .inl ⟨by kernel_rfl, ?_⟩; intro wS hS; clear hS; go_simp; with_reducible rfl
              · go_simp; with_reducible rfl
              refine wpK_take0 (v := ?_) (a' := ?_) 12 rfl (by kernel_rfl) (by kernel_rfl) (by kernel_rfl) (by kernel_rfl) (fun _ _ _ h => h) ?_ ?_ ?_
              rotate_left 2
              · refine .inl ⟨by kernel_rfl, ?_⟩; intro wS hS; clear hS; go_simp; with_reducible rfl
              · go_simp; with_reducible rfl
              refine wpK_take (v := ?_) (a' := ?_) 13 rfl (by kernel_rfl) (by kernel_rfl) (by kernel_rfl) (by kernel_rfl) (by kernel_rfl) (fun _ _ _ h => h) (below_drew1 Hw7.out) ?_ ?_ ?_
              rotate_left 2
              · refine .inl ⟨by kernel_rfl, ?_⟩; intro wS hS; have hh := HX.out _ (HXW.out _ hS); have q0 : wS.cell? ⟨bx, ox, none⟩ = some (.int .i64 kx) := hh.1.1; have q1 : wS.cell? ⟨bx, ox + 1, none⟩ = some (.int .i64 nx) := hh.1.2.1; have q2 := hh.2.2.1; have q3 : wS.cell? ⟨bx, ox + 2, none⟩ = some (.string sx) := hh.1.2.2.1; have q4 : wS.cell? ⟨bx, ox + 3, none⟩ = some (.slice Ax lx.length cx) := hh.1.2.2.2; have r0 : wS.cell? ⟨by_, oy, none⟩ = some (.int .i64 ky) := hh.2.1.1; have r1 : wS.cell? ⟨by_, oy + 1, none⟩ = some (.int .i64 ny) := hh.2.1.2.1; have r3 : wS.cell? ⟨by_, oy + 2, none⟩ = some (.string sy) := hh.2.1.2.2.1; have r4 : wS.cell? ⟨by_, oy + 3, none⟩ = some (.slice Ay ly.length cy) := hh.2.1.2.2.2; have r2 := hh.2.2.2; clear hh; go_simp; with_reducible rfl
              · go_simp; with_reducible rfl
              refine wpK_take0 (v := ?_) (a' := ?_) 14 rfl (by kernel_rfl) (by kernel_rfl) (by kernel_rfl) (by kernel_rfl) (fun _ _ _ h => h) ?_ ?_ ?_
              rotate_left 2
              · refine .inl ⟨by kernel_rfl, ?_⟩; intro wS hS; clear hS; go_simp; with_reducible rfl
              · go_simp; with_reducible rfl
              refine wpK_take0 (v := ?_) (a' := ?_) 15 rfl (by kernel_rfl) (by kernel_rfl) (by kernel_rfl) (by kernel_rfl) (fun _ _ _ h => h) ?_ ?_ ?_
              rotate_left 2
              · refine .inl ⟨by kernel_rfl, ?_⟩; intro wS hS; clear hS; go_simp; with_reducible rfl
              · go_simp; with_reducible rfl
              refine wpK_take0 (v := ?_) (a' := ?_) 16 rfl (by kernel_rfl) (by kernel_rfl) (by kernel_rfl) (by kernel_rfl) (fun _ _ _ h => h) ?_ ?_ ?_
              rotate_left 2
              · refine .inl ⟨by kernel_rfl, ?_⟩; intro wS hS; clear hS; go_simp; with_reducible rfl
              · go_simp; with_reducible rfl
              refine wpK_take (v := ?_) (a' := ?_) 17 rfl (by kernel_rfl) (by kernel_rfl) (by kernel_rfl) (by kernel_rfl) (by kernel_rfl) (fun _ _ _ h => h) (below_drew1 Hw7.out) ?_ ?_ ?_
              rotate_left 2
              · refine .inl ⟨by kernel_rfl, ?_⟩; intro wS hS; have hh := HX.out _ (HXW.out _ hS); have q0 : wS.cell? ⟨bx, ox, none⟩ = some (.int .i64 kx) := hh.1.1; have q1 : wS.cell? ⟨bx, ox + 1, none⟩ = some (.int .i64 nx) := hh.1.2.1; have q2 := hh.2.2.1; have q3 : wS.cell? ⟨bx, ox + 2, none⟩ = some (.string sx) := hh.1.2.2.1; have q4 : wS.cell? ⟨bx, ox + 3, none⟩ = some (.slice Ax lx.length cx) := hh.1.2.2.2; have r0 : wS.cell? ⟨by_, oy, none⟩ = some (.int .i64 ky) := hh.2.1.1; have r1 : wS.cell? ⟨by_, oy + 1, none⟩ = some (.int .i64 ny) := hh.2.1.2.1; have r3 : wS.cell? ⟨by_, oy + 2, none⟩ = some (.string sy) := hh.2.1.2.2.1; have r4 : wS.cell? ⟨by_, oy + 3, none⟩ = some (.slice Ay ly.length cy) := hh.2.1.2.2.2; have r2 := hh.2.2.2; clear hh; go_simp; with_reducible rfl
              · go_simp; with_reducible rfl
              refine wpK_take0 (v := ?_) (a' := ?_) 18 rfl (by kernel_rfl) (by kernel_rfl) (by kernel_rfl) (by kernel_rfl) (fun _ _ _ h => h) ?_ ?_ ?_
              rotate_left 2
              · refine .inl ⟨by kernel_rfl, ?_⟩; intro wS hS; clear hS; go_simp; with_reducible rfl
              · go_simp; with_reducible rfl
              refine wpK_take0 (v := ?_) (a' := ?_) 19 rfl (by kernel_rfl) (by kernel_rfl) (by kernel_rfl) (by kernel_rfl) (fun _ _ _ h => h) ?_ ?_ ?_
              rotate_left 2
              · refine .inl ⟨by kernel_rfl, ?_⟩; intro wS hS; clear hS; go_simp; with_reducible rfl
              · go_simp; with_reducible rfl
              refine wpK_take0 (v := ?_) (a' := ?_) 20 rfl (by kernel_rfl) (by kernel_rfl) (by kernel_rfl) (by kernel_rfl) (fun _ _ _ h => h) ?_ ?_ ?_
              rotate_left 2
              · refine .inl ⟨by kernel_rfl, ?_⟩; intro wS hS; clear hS; go_simp; with_reducible rfl
              · go_simp; with_reducible rfl
              refine wpK_take0 (v := ?_) (a' := ?_) 21 rfl (by kernel_rfl) (by kernel_rfl) (by kernel_rfl) (by kernel_rfl) (fun _ _ _ h => h) ?_ ?_ ?_
              rotate_left 2
              · refine .inl ⟨by kernel_rfl, ?_⟩; intro wS hS; clear hS; go_simp; with_reducible rfl
              · go_simp; with_reducible rfl
              refine wpK_take0 (v := ?_) (a' := ?_) 22 rfl (by kernel_rfl) (by kernel_rfl) (by kernel_rfl) (by kernel_rfl) (fun _ _ _ h => h) ?_ ?_ ?_
              rotate_left 2
              · refine .inl ⟨by kernel_rfl, ?_⟩; intro wS hS; clear hS; go_simp; with_reducible rfl
              · go_simp; with_reducible rfl
              refine wpK_take0 (v := ?_) (a' := ?_) 23 rfl (by kernel_rfl) (by kernel_rfl) (by kernel_rfl) (by kernel_rfl) (fun _ _ _ h => h) ?_ ?_ ?_
              rotate_left 2
              · refine .inl ⟨by kernel_rfl, ?_⟩; intro wS hS; clear hS; go_simp; with_reducible rfl
              · go_simp; with_reducible rfl
              refine wpK_take (v := ?_) (a' := ?_) 24 rfl (by kernel_rfl) (by kernel_rfl) (by kernel_rfl) (by kernel_rfl) (by kernel_rfl) (fun _ _ _ h => h) (below_drew1 Hw7.out) ?_ ?_ ?_
              rotate_left 2
              · refine .inl ⟨by kernel_rfl, ?_⟩; intro wS hS; have hh := HX.out _ (HXW.out _ hS); have q0 : wS.cell? ⟨bx, ox, none⟩ = some (.int .i64 kx) := hh.1.1; have q1 : wS.cell? ⟨bx, ox + 1, none⟩ = some (.int .i64 nx) := hh.1.2.1; have q2 := hh.2.2.1; have q3 : wS.cell? ⟨bx, ox + 2, none⟩ = some (.string sx) := hh.1.2.2.1; have q4 : wS.cell? ⟨bx, ox + 3, none⟩ = some (.slice Ax lx.length cx) := hh.1.2.2.2; have r0 : wS.cell? ⟨by_, oy, none⟩ = some (.int .i64 ky) := hh.2.1.1; have r1 : wS.cell? ⟨by_, oy + 1, none⟩ = some (.int .i64 ny) := hh.2.1.2.1; have r3 : wS.cell? ⟨by_, oy + 2, none⟩ = some (.string sy) := hh.2.1.2.2.1; have r4 : wS.cell? ⟨by_, oy + 3, none⟩ = some (.slice Ay ly.length cy) := hh.2.1.2.2.2; have r2 := hh.2.2.2; clear hh; go_simp; with_reducible rfl
              · go_simp; with_reducible rfl
              refine wpK_take0 (v := ?_) (a' := ?_) 25 rfl (by kernel_rfl) (by kernel_rfl) (by kernel_rfl) (by kernel_rfl) (fun _ _ _ h => h) ?_ ?_ ?_
              rotate_left 2
              · refine .inl ⟨by kernel_rfl, ?_⟩; intro wS hS; clear hS; go_simp; with_reducible rfl
              · go_simp; with_reducible rfl
              refine wpK_take0 (v := ?_) (a' := ?_) 26 rfl (by kernel_rfl) (by kernel_rfl) (by kernel_rfl) (by kernel_rfl) (fun _ _ _ h => h) ?_ ?_ ?_
              rotate_left 2
              · refine .inl ⟨by kernel_rfl, ?_⟩; intro wS hS; clear hS; go_simp; with_reducible rfl
              · go_simp; with_reducible rfl
              refine wpK_take0 (v := ?_) (a' := ?_) 27 rfl (by kernel_rfl) (by kernel_rfl) (by kernel_rfl) (by kernel_rfl) (fun _ _ _ h => h) ?_ ?_ ?_
              rotate_left 2
              · refine .inl ⟨by kernel_rfl, ?_⟩; intro wS hS; clear hS; go_simp; with_reducible rfl
              · go_simp; with_reducible rfl
              refine wpK_take0 (v := ?_) (a' := ?_) 28 rfl (by kernel_rfl) (by kernel_rfl) (by kernel_rfl) (by kernel_rfl) (fun _ _ _ h => h) ?_ ?_ ?_
              rotate_left 2
              · refine .inl ⟨by kernel_rfl, ?_⟩; intro wS hS; clear hS; go_simp; with_reducible rfl
              · go_simp; with_reducible rfl
              refine wpK_take (v := ?_) (a' := ?_) 29 rfl (by kernel_rfl) (by kernel_rfl) (by kernel_rfl) (by kernel_rfl) (by kernel_rfl) (fun _ _ _ h => h) (below_drew1 Hw7.out) ?_ ?_ ?_
              rotate_left 2
              · refine .inl ⟨by kernel_rfl, ?_⟩; intro wS hS; have hh := HX.out _ (HXW.out _ hS); have q0 : wS.cell? ⟨bx, ox, none⟩ = some (.int .i64 kx) := hh.1.1; have q1 : wS.cell? ⟨bx, ox + 1, none⟩ = some (.int .i64 nx) := hh.1.2.1; have q2 := hh.2.2.1; have q3 : wS.cell? ⟨bx, ox + 2, none⟩ = some (.string sx) := hh.1.2.2.1; have q4 : wS.cell? ⟨bx, ox + 3, none⟩ = some (.slice Ax lx.length cx) := hh.1.2.2.2; have r0 : wS.cell? ⟨by_, oy, none⟩ = some (.int .i64 ky) := hh.2.1.1; have r1 : wS.cell? ⟨by_, oy + 1, none⟩ = some (.int .i64 ny) := hh.2.1.2.1; have r3 : wS.cell? ⟨by_, oy + 2, none⟩ = some (.string sy) := hh.2.1.2.2.1; have r4 : wS.cell? ⟨by_, oy + 3, none⟩ = some (.slice Ay ly.length cy) := hh.2.1.2.2.2; have r2 := hh.2.2.2; clear hh; go_simp; with_reducible rfl
              · go_simp; with_reducible rfl
              refine wpK_take0 (v := ?_) (a' := ?_) 30 rfl (by kernel_rfl) (by kernel_rfl) (by kernel_rfl) (by kernel_rfl) (fun _ _ _ h => h) ?_ ?_ ?_
              rotate_left 2
              · refine .inl ⟨by kernel_rfl, ?_⟩; intro wS hS; clear hS; go_simp; with_reducible rfl
              · go_simp; with_reducible rfl
              refine wpK_take0 (v := ?_) (a' := ?_) 31 rfl (by kernel_rfl) (by kernel_rfl) (by kernel_rfl) (by kernel_rfl) (fun _ _ _ h => h) ?_ ?_ ?_
              rotate_left 2
              · refine .inl ⟨by kernel_rfl, ?_⟩; intro wS hS; clear hS; go_simp; with_reducible rfl
              · go_simp; with_reducible rfl
              refine wpK_take0 (v := ?_) (a' := ?_) 32 rfl (by kernel_rfl) (by kernel_rfl) (by kernel_rfl) (by kernel_rfl) (fun _ _ _ h => h) ?_ ?_ ?_
              rotate_left 2
              · refine .inl ⟨by kernel_rfl, ?_⟩; intro wS hS; clear hS; go_simp; with_reducible rfl
              · go_simp; with_reducible rfl
              refine wpK_take0 (v := ?_) (a' := ?_) 33 rfl (by kernel_rfl) (by kernel_rfl) (by kernel_rfl) (by kernel_rfl) (fun _ _ _ h => h) ?_ ?_ ?_
              rotate_left 2
              · refine .inl ⟨by kernel_rfl, ?_⟩; intro wS hS; clear hS; go_simp; with_reducible rfl
              · go_simp; with_reducible rfl
              refine wpK_end (by kernel_rfl) ?_ _
              change Exit.then _ _ _ _ w7.drew
              obtain ⟨w11, hw11⟩ : ∃ x, x = w7.drew := ⟨_, rfl⟩
              rw [← hw11]
              have Hw11 : Hid (Below wr.heap.size wr w11) := Lib.hid (by rw [hw11]; exact below_drew1 Hw7.out)
              clear hw11
              go_wp2
              refine wp_region_K (fun w' => Below wr.heap.size wr w') (fun j => true) (by kernel_rfl) ?_
              refine wpK_take0 (v := ?_) (a' := ?_) 0 rfl (by kernel_rfl) (by kernel_rfl) (by kernel_rfl) (by kernel_rfl) (fun _ _ _ h => h) ?_ ?_ ?_
              rotate_left 2
              · refine .inl ⟨by kernel_rfl, ?_⟩; intro wS hS; clear hS; go_simp; with_reducible rfl
              · go_simp; with_reducible rfl
              refine wpK_take0 (v := ?_) (a' := ?_) 1 rfl (by kernel_rfl) (by kernel_rfl) (by kernel_rfl) (by kernel_rfl) (fun _ _ _ h => h) ?_ ?_ ?_
              rotate_left 2
              · refine .inl ⟨by kernel_rfl, ?_⟩; intro wS hS; clear hS; go_simp; with_reducible rfl
              · go_simp; with_reducible rfl
              refine wpK_take0 (v := ?_) (a' := ?_) 2 rfl (by kernel_rfl) (by kernel_rfl) (by kernel_rfl) (by kernel_rfl) (fun _ _ _ h => h) ?_ ?_ ?_
              rotate_left 2
              · refine .inl ⟨by kernel_rfl, ?_⟩; intro wS hS; clear hS; go_simp; with_reducible rfl
              · go_simp; with_reducible rfl
              refine wpK_take (v := ?_) (a' := ?_) 3 rfl (by kernel_rfl) (by kernel_rfl) (by kernel_rfl) (by kernel_rfl) (by kernel_rfl) (fun _ _ _ h => h) (below_drew1 Hw11.out) ?_ ?_ ?_
              rotate_left 2
              · refine .inl ⟨by kernel_rfl, ?_⟩; intro wS hS; have hh := HX.out _ (HXW.out _ hS); have q0 : wS.cell? ⟨bx, ox, none⟩ = some (.int .i64 kx) := hh.1.1; have q1 : wS.cell? ⟨bx, ox + 1, none⟩ = some (.int .i64 nx) := hh.1.2.1; have q2 := hh.2.2.1; have q3 : wS.cell? ⟨bx, ox + 2, none⟩ = some (.string sx) := hh.1.2.2.1; have q4 : wS.cell? ⟨bx, ox + 3, none⟩ = some (.slice Ax lx.length cx) := hh.1.2.2.2; have r0 : wS.cell? ⟨by_, oy, none⟩ = some (.int .i64 ky) := hh.2.1.1; have r1 : wS.cell? ⟨by_, oy + 1, none⟩ = some (.int .i64 ny) := hh.2.1.2.1; have r3 : wS.cell? ⟨by_, oy + 2, none⟩ = some (.string sy) := hh.2.1.2.2.1; have r4 : wS.cell? ⟨by_, oy + 3, none⟩ = some (.slice Ay ly.length cy) := hh.2.1.2.2.2; have r2 := hh.2.2.2; clear hh; go_simp; with_reducible rfl
              · go_simp; with_reducible rfl
              refine wpK_take0 (v := ?_) (a' := ?_) 4 rfl (by kernel_rfl) (by kernel_rfl) (by kernel_rfl) (by kernel_rfl) (fun _ _ _ h => h) ?_ ?_ ?_
              rotate_left 2
              · refine .inl ⟨by kernel_rfl, ?_⟩; intro wS hS; clear hS; go_simp; with_reducible rfl
              · go_simp; with_reducible rfl
              refine wpK_take0 (v := ?_) (a' := ?_) 5 rfl (by kernel_rfl) (by kernel_rfl) (by kernel_rfl) (by kernel_rfl) (fun _ _ _ h => h) ?_ ?_ ?_
              rotate_left 2
              · refine .inl ⟨by kernel_rfl, ?_⟩; intro wS hS; clear hS; go_simp; with_reducible rfl
              · go_simp; with_reducible rfl
              refine wpK_take0 (v := undef) (a' := ?_) 6 rfl (by kernel_rfl) (by kernel_rfl) (by kernel_rfl) (by kernel_rfl) (fun _ _ _ h => h) ?_ ?_ ?_
              rotate_left 1
              · exact .inr ⟨by kernel_rfl, rfl⟩
              · go_simp; with_reducible rfl
              refine wpK_take0 (v := undef) (a' := ?_) 7 rfl (by kernel_rfl) (by kernel_rfl) (by kernel_rfl) (by kernel_rfl) (fun _ _ _ h => h) ?_ ?_ ?_
              rotate_left 1
              · exact .inr ⟨by kernel_rfl, rfl⟩
              · go_simp; with_reducible rfl
              refine wpK_take0 (v := undef) (a' := ?_) 8 rfl (by kernel_rfl) (by kernel_rfl) (by kernel_rfl) (by kernel_rfl) (fun _ _ _ h => h) ?_ ?_ ?_
              rotate_left 1
              · exact .inr ⟨by kernel_rfl, rfl⟩
              · go_simp; with_reducible rfl
              refine wpK_take0 (v := undef) (a' := ?_) 9 rfl (by kernel_rfl) (by kernel_rfl) (by kernel_rfl) (by kernel_rfl) (fun _ _ _ h => h) ?_ ?_ ?_
              rotate_left 1
              · exact .inr ⟨by kernel_rfl, rfl⟩
              · go_simp; with_reducible rfl
              refine wpK_take0 (v := undef) (a' := ?_) 10 rfl (by kernel_rfl) (by kernel_rfl) (by kernel_rfl) (by kernel_rfl) (fun _ _ _ h => h) ?_ ?_ ?_
              rotate_left 1
              · exact .inr ⟨by kernel_rfl, rfl⟩
              · go_simp; with_reducible rfl
              refine wpK_take0 (v := undef) (a' := ?_) 11 rfl (by kernel_rfl) (by kernel_rfl) (by kernel_rfl) (by kernel_rfl) (fun _ _ _ h => h) ?_ ?_ ?_
              rotate_left 1
              · exact .inr ⟨by kernel_rfl, rfl⟩
              · go_simp; with_reducible rfl
              refine wpK_take0 (v := undef) (a' := ?_) 12 rfl (by kernel_rfl) (by kernel_rfl) (by kernel_rfl) (by kernel_rfl) (fun _ _ _ h => h) ?_ ?_ ?_
              rotate_left 1
              · exact .inr ⟨by kernel_rfl, rfl⟩
              · go_simp; with_reducible rfl
              refine wpK_take0 (v := undef) (a' := ?_) 13 rfl (by kernel_rfl) (by kernel_rfl) (by kernel_rfl) (by kernel_rfl) (fun _ _ _ h => h) ?_ ?_ ?_
              rotate_left 1
              · exact .inr ⟨by kernel_rfl, rfl⟩
              · go_simp; with_reducible rfl
              refine wpK_take0 (v := undef) (a' := ?_) 14 rfl (by kernel_rfl) (by kernel_rfl) (by kernel_rfl) (by kernel_rfl) (fun _ _ _ h => h) ?_ ?_ ?_
              rotate_left 1
              · exact .inr ⟨by kernel_rfl, rfl⟩
              · go_simp; with_reducible rfl
              refine wpK_take0 (v := undef) (a' := ?_) 15 rfl (by kernel_rfl) (by kernel_rfl) (by kernel_rfl) (by kernel_rfl) (fun _ _ _ h => h) ?_ ?_ ?_
              rotate_left 1
              · exact .inr ⟨by kernel_rfl, rfl⟩
              · go_simp; with_reducible rfl
              refine wpK_take0 (v := undef) (a' := ?_) 16 rfl (by kernel_rfl) (by kernel_rfl) (by kernel_rfl) (by kernel_rfl) (fun _ _ _ h => h) ?_ ?_ ?_
              rotate_left 1
              · exact .inr ⟨by kernel_rfl, rfl⟩
              · go_simp; with_reducible rfl
              refine wpK_take0 (v := undef) (a' := ?_) 17 rfl (by kernel_rfl) (by kernel_rfl) (by kernel_rfl) (by kernel_rfl) (fun _ _ _ h => h) ?_ ?_ ?_
              rotate_left 1
              · exact .inr ⟨by kernel_rfl, rfl⟩
              · go_simp; with_reducible rfl
              refine wpK_take0 (v := undef) (a' := ?_) 18 rfl (by kernel_rfl) (by kernel_rfl) (by kernel_rfl) (by kernel_rfl) (fun _ _ _ h => h) ?_ ?_ ?_
              rotate_left 1
              · exact .inr ⟨by kernel_rfl, rfl⟩
              · go_simp; with_reducible rfl
              refine wpK_take0 (v := undef) (a' := ?_) 19 rfl (by kernel_rfl) (by kernel_rfl) (by kernel_rfl) (by kernel_rfl) (fun _ _ _ h => h) ?_ ?_ ?_
              rotate_left 1
              · exact .inr ⟨by kernel_rfl, rfl⟩
              · go_simp; with_reducible rfl
              refine wpK_take0 (v := undef) (a' := ?_) 20 rfl (by kernel_rfl) (by kernel_rfl) (by kernel_rfl) (by kernel_rfl) (fun _ _ _ h => h) ?_ ?_ ?_
              rotate_left 1
              · exact .inr ⟨by kernel_rfl, rfl⟩
              · go_simp; with_reducible rfl
              refine wpK_take0 (v := ?_) (a' := ?_) 21 rfl (by kernel_rfl) (by kernel_rfl) (by kernel_rfl) (by kernel_rfl) (fun _ _ _ h => h) ?_ ?_ ?_
              rotate_left 2
              · refine .inl ⟨by kernel_rfl, ?_⟩; intro wS hS; clear hS; go_simp; with_reducible rfl
              · go_simp; with_reducible rfl
              refine wpK_take0 (v := ?_) (a' := ?_) 22 rfl (by kernel_rfl) (by kernel_rfl) (by kernel_rfl) (by kernel_rfl) (fun _ _ _ h => h) ?_ ?_ ?_
              rotate_left 2
              · refine .inl ⟨by kernel_rfl, ?_⟩; intro wS hS; clear hS; go_simp; with_reducible rfl
              · go_simp; with_reducible rfl
              refine wpK_end (by kernel_rfl) ?_ _
              change Exit.then _ _ _ _ w11.drew
              obtain ⟨w12, hw12⟩ : ∃ x, x = w11.drew := ⟨_, rfl⟩
              rw [← hw12]
              have Hw12 : Hid (Below wr.heap.size wr w12) := Lib.hid (by rw [hw12]; exact below_drew1 Hw11.out)
              clear hw12
              have hh := HX.out w12 (HXW.out _ Hw12.out)
              have p1 : w12.cell? ⟨bx, ox + 1, none⟩ = some (.int .i64 nx) := hh.1.2.1
              have p3 : w12.cell? ⟨bx, ox + 3, none⟩ = some (.slice Ax lx.length cx) := hh.1.2.2.2
              have p7 : w12.cell? ⟨by_, oy + 3, none⟩ = some (.slice Ay ly.length cy) := hh.2.1.2.2.2
              clear hh
              have HT : Hid (TAt wB wB.heap.size σ L (.mk kx nx sx lx) (cellsP (⟨.mk kx nx sx lx, bx, ox, .mk ky ny sy ly, by_, oy⟩ :: L)) (.slice (some ⟨g, off, none⟩) (L.length + 1) cap) w12) := Lib.hid (HAT.out.on Hw12.out)
              obtain ⟨wt, hwt⟩ : ∃ x, x = w12 := ⟨_, rfl⟩
              subst hwt
              go_wp2_with fail
              go_meet
              exact ⟨_, HLOC.out, HT.out, HLL.out, hll⟩
            · have hnl : ((lx.length : Int) != (ly.length : Int)) = true := by simpa using fun h : (lx.length : Int) = ly.length => hll0 (by omega)
              have HLOC : Hid (loc va vb σ (.mk kx nx sx lx) (.mk ky ny sy ly) = none) := Lib.hid ((loc_con HK1.out).trans (if_neg fun h => hll0 h.2.2.symm))
              clear hky hss hll0
              refine wp_region_K (fun w' => Below wr.heap.size wr w') (fun j => true) (by kernel_rfl) ?_
              refine wpK_take0 (v := ?_) (a' := ?_) 0 rfl (by kernel_rfl) (by kernel_rfl) (by kernel_rfl) (by kernel_rfl) (fun _ _ _ h => h) ?_ ?_ ?_
              rotate_left 2
              · refine .inl ⟨by kernel_rfl, ?_⟩; intro wS hS; clear hS; go_simp; with_reducible rfl
              · go_simp; with_reducible rfl
              refine wpK_take0 (v := ?_) (a' := ?_) 1 rfl (by kernel_rfl) (by kernel_rfl) (by kernel_rfl) (by kernel_rfl) (fun _ _ _ h => h) ?_ ?_ ?_
              rotate_left 2
              · refine .inl ⟨by kernel_rfl, ?_⟩; intro wS hS; clear hS; go_simp; with_reducible rfl
              · go_simp; with_reducible rfl
              refine wpK_take0 (v := ?_) (a' := ?_) 2 rfl (by kernel_rfl) (by kernel_rfl) (by kernel_rfl) (by kernel_rfl) (fun _ _ _ h => h) ?_ ?_ ?_
              rotate_left 2
              · refine .inl ⟨by kernel_rfl, ?_⟩; intro wS hS; clear hS; go_simp; with_reducible rfl
              · go_simp; with_reducible rfl
              refine wpK_take (v := ?_) (a' := ?_) 3 rfl (by kernel_rfl) (by kernel_rfl) (by kernel_rfl) (by kernel_rfl) (by kernel_rfl) (fun _ _ _ h => h) (below_drew1 Hw7.out) ?_ ?_ ?_
              rotate_left 2
              · refine .inl ⟨by kernel_rfl, ?_⟩; intro wS hS; have hh := HX.out _ (HXW.out _ hS); have q0 : wS.cell? ⟨bx, ox, none⟩ = some (.int .i64 kx) := hh.1.1; have q1 : wS.cell? ⟨bx, ox + 1, none⟩ = some (.int .i64 nx) := hh.1.2.1; have q2 := hh.2.2.1; have q3 : wS.cell? ⟨bx, ox + 2, none⟩ = some (.string sx) := hh.1.2.2.1; have q4 : wS.cell? ⟨bx, ox + 3, none⟩ = some (.slice Ax lx.length cx) := hh.1.2.2.2; have r0 : wS.cell? ⟨by_, oy, none⟩ = some (.int .i64 ky) := hh.2.1.1; have r1 : wS.cell? ⟨by_, oy + 1, none⟩ = some (.int .i64 ny) := hh.2.1.2.1; have r3 : wS.cell? ⟨by_, oy + 2, none⟩ = some (.string sy) := hh.2.1.2.2.1; have r4 : wS.cell? ⟨by_, oy + 3, none⟩ = some (.slice Ay ly.length cy) := hh.2.1.2.2.2; have r2 := hh.2.2.2; clear hh; go_simp; with_reducible rfl
              · go_simp; with_reducible rfl
              refine wpK_take0 (v := ?_) (a' := ?_) 4 rfl (by kernel_rfl) (by kernel_rfl) (by kernel_rfl) (by kernel_rfl) (fun _ _ _ h => h) ?_ ?_ ?_
              rotate_left 2
              · refine .inl ⟨by kernel_rfl, ?_⟩; intro wS hS; clear hS; go_simp; with_reducible rfl
              · go_simp; with_reducible rfl
              refine wpK_take0 (v := ?_) (a' := ?_) 5 rfl (by kernel_rfl) (by kernel_rfl) (by kernel_rfl) (by kernel_rfl) (fun _ _ _ h => h) ?_ ?_ ?_
              rotate_left 2
              · refine .inl ⟨by kernel_rfl, ?_⟩; intro wS hS; clear hS; go_simp; with_reducible rfl
              · go_simp; with_reducible rfl
              refine wpK_take0 (v := ?_) (a' := ?_) 6 rfl (by kernel_rfl) (by kernel_rfl) (by kernel_rfl) (by kernel_rfl) (fun _ _ _ h => h) ?_ ?_ ?_
              rotate_left 2
              · refine .inl ⟨by kernel_rfl, ?_⟩; intro wS hS; clear hS; go_simp; with_reducible rfl
              · go_simp; with_reducible rfl
              refine wpK_take (v := ?_) (a' := ?_) 7 rfl (by kernel_rfl) (by kernel_rfl) (by kernel_rfl) (by kernel_rfl) (by kernel_rfl) (fun _ _ _ h => h) (below_drew1 Hw7.out) ?_ ?_ ?_
              rotate_left 2
              · refine .inl ⟨by kernel_rfl, ?_⟩; intro wS hS; have hh := HX.out _ (HXW.out _ hS); have q0 : wS.cell? ⟨bx, ox, none⟩ = some (.int .i64 kx) := hh.1.1; have q1 : wS.cell? ⟨bx, ox + 1, none⟩ = some (.int .i64 nx) := hh.1.2.1; have q2 := hh.2.2.1; have q3 : wS.cell? ⟨bx, ox + 2, none⟩ = some (.string sx) := hh.1.2.2.1; have q4 : wS.cell? ⟨bx, ox + 3, none⟩ = some (.slice Ax lx.length cx) := hh.1.2.2.2; have r0 : wS.cell? ⟨by_, oy, none⟩ = some (.int .i64 ky) := hh.2.1.1; have r1 : wS.cell? ⟨by_, oy + 1, none⟩ = some (.int .i64 ny) := hh.2.1.2.1; have r3 : wS.cell? ⟨by_, oy + 2, none⟩ = some (.string sy) := hh.2.1.2.2.1; have r4 : wS.cell? ⟨by_, oy + 3, none⟩ = some (.slice Ay ly.length cy) := hh.2.1.2.2.2; have r2 := hh.2.2.2; clear hh; go_simp; with_reducible rfl
              · go_simp; with_reducible rfl
              refine wpK_take0 (v := ?_) (a' := ?_) 8 rfl (by kernel_rfl) (by kernel_rfl) (by kernel_rfl) (by kernel_rfl) (fun _ _ _ h => h) ?_ ?_ ?_
              rotate_left 2
              · refine .inl ⟨by kernel_rfl, ?_⟩; intro wS hS; clear hS; go_simp; with_reducible rfl
              · go_simp; with_reducible rfl
              refine wpK_take0 (v := ?_) (a' := ?_) 9 rfl (by kernel_rfl) (by kernel_rfl) (by kernel_rfl) (by kernel_rfl) (fun _ _ _ h => h) ?_ ?_ ?_
              rotate_left 2
              · refine .inl ⟨by kernel_rfl, ?_⟩; intro wS hS; clear hS; go_simp; with_reducible rfl
              · go_simp; with_reducible rfl
              refine wpK_take0 (v := ?_) (a' := ?_) 10 rfl (by kernel_rfl) (by kernel_rfl) (by kernel_rfl) (by kernel_rfl) (fun _ _ _ h => h) ?_ ?_ ?_
              rotate_left 2
              · refine .inl ⟨by kernel_rfl, ?_⟩; intro wS hS; clear hS; go_simp; with_reducible rfl
              · go_simp; with_reducible rfl
              refine wpK_take0 (v := ?_) (a' := ?_) 11 rfl (by kernel_rfl) (by kernel_rfl) (by kernel_rfl) (by kernel_rfl) (fun _ _ _ h => h) ?_ ?_ ?_
              rotate_left 2
              · refine .inl ⟨by kernel_rfl, ?_⟩; intro wS hS; clear hS; go_simp; with_reducible rfl
              · go_simp; with_reducible rfl
              refine wpK_take0 (v := ?_) (a' := ?_) 12 rfl (by kernel_rfl) (by kernel_rfl) (by kernel_rfl) (by kernel_rfl) (fun _ _ _ h => h) ?_ ?_ ?_
              rotate_left 2
              · refine .inl ⟨by kernel_rfl, ?_⟩; intro wS hS; clear hS; go_simp; with_reducible rfl
              · go_simp; with_reducible rfl
              refine wpK_take (v := ?_) (a' := ?_) 13 rfl (by kernel_rfl) (by kernel_rfl) (by kernel_rfl) (by kernel_rfl) (by kernel_rfl) (fun _ _ _ h => h) (below_drew1 Hw7.out) ?_ ?_ ?_
              rotate_left 2
              · refine .inl ⟨by kernel_rfl, ?_⟩; intro wS hS; have hh := HX.out _ (HXW.out _ hS); have q0 : wS.cell? ⟨bx, ox, none⟩ = some (.int .i64 kx) := hh.1.1; have q1 : wS.cell? ⟨bx, ox + 1, none⟩ = some (.int .i64 nx) := hh.1.2.1; have q2 := hh.2.2.1; have q3 : wS.cell? ⟨bx, ox + 2, none⟩ = some (.string sx) := hh.1.2.2.1; have q4 : wS.cell? ⟨bx, ox + 3, none⟩ = some (.slice Ax lx.length cx) := hh.1.2.2.2; have r0 : wS.cell? ⟨by_, oy, none⟩ = some (.int .i64 ky) := hh.2.1.1; have r1 : wS.cell? ⟨by_, oy + 1, none⟩ = some (.int .i64 ny) := hh.2.1.2.1; have r3 : wS.cell? ⟨by_, oy + 2, none⟩ = some (.string sy) := hh.2.1.2.2.1; have r4 : wS.cell? ⟨by_, oy + 3, none⟩ = some (.slice Ay ly.length cy) := hh.2.1.2.2.2; have r2 := hh.2.2.2; clear hh; go_simp; with_reducible rfl
              · go_simp; with_reducible rfl
              refine wpK_take0 (v := ?_) (a' := ?_) 14 rfl (by kernel_rfl) (by kernel_rfl) (by kernel_rfl) (by kernel_rfl) (fun _ _ _ h => h) ?_ ?_ ?_
              rotate_left 2
              · refine .inl ⟨by kernel_rfl, ?_⟩; intro wS hS; clear hS; go_simp; with_reducible rfl
              · go_simp; with_reducible rfl
              refine wpK_take0 (v := ?_) (a' := ?_) 15 rfl (by kernel_rfl) (by kernel_rfl) (by kernel_rfl) (by kernel_rfl) (fun _ _ _ h => h) ?_ ?_ ?_
              rotate_left 2
              · refine .inl ⟨by kernel_rfl, ?_⟩; intro wS hS; clear hS; go_simp; with_reducible rfl
              · go_simp; with_reducible rfl
              refine wpK_take0 (v := ?_) (a' := ?_) 16 rfl (by kernel_rfl) (by kernel_rfl) (by kernel_rfl) (by kernel_rfl) (fun _ _ _ h => h) ?_ ?_ ?_
              rotate_left 2
              · refine .inl ⟨by kernel_rfl, ?_⟩; intro wS hS; clear hS; go_simp; with_reducible rfl
              · go_simp; with_reducible rfl
              refine wpK_take (v := ?_) (a' := ?_) 17 rfl (by kernel_rfl) (by kernel_rfl) (by kernel_rfl) (by kernel_rfl) (by kernel_rfl) (fun _ _ _ h => h) (below_drew1 Hw7.out) ?_ ?_ ?_
              rotate_left 2
              · refine .inl ⟨by kernel_rfl, ?_⟩; intro wS hS; have hh := HX.out _ (HXW.out _ hS); have q0 : wS.cell? ⟨bx, ox, none⟩ = some (.int .i64 kx) := hh.1.1; have q1 : wS.cell? ⟨bx, ox + 1, none⟩ = some (.int .i64 nx) := hh.1.2.1; have q2 := hh.2.2.1; have q3 : wS.cell? ⟨bx, ox + 2, none⟩ = some (.string sx) := hh.1.2.2.1; have q4 : wS.cell? ⟨bx, ox + 3, none⟩ = some (.slice Ax lx.length cx) := hh.1.2.2.2; have r0 : wS.cell? ⟨by_, oy, none⟩ = some (.int .i64 ky) := hh.2.1.1; have r1 : wS.cell? ⟨by_, oy + 1, none⟩ = some (.int .i64 ny) := hh.2.1.2.1; have r3 : wS.cell? ⟨by_, oy + 2, none⟩ = some (.string sy) := hh.2.1.2.2.1; have r4 : wS.cell? ⟨by_, oy + 3, none⟩ = some (.slice Ay ly.length cy) := hh.2.1.2.2.2; have r2 := hh.2.2.2; clear hh; go_simp; with_reducible rfl
              · go_simp; with_reducible rfl
              refine wpK_take0 (v := ?_) (a' := ?_) 18 rfl (by kernel_rfl) (by kernel_rfl) (by kernel_rfl) (by kernel_rfl) (fun _ _ _ h => h) ?_ ?_ ?_
              rotate_left 2
              · refine .inl ⟨by kernel_rfl, ?_⟩; intro wS hS; clear hS; go_simp; with_reducible rfl
              · go_simp; with_reducible rfl
              refine wpK_take0 (v := ?_) (a' := ?_) 19 rfl (by kernel_rfl) (by kernel_rfl) (by kernel_rfl) (by kernel_rfl) (fun _ _ _ h => h) ?_ ?_ ?_
              rotate_left 2
              · refine .inl ⟨by kernel_rfl, ?_⟩; intro wS hS; clear hS; go_simp; with_reducible rfl
              · go_simp; with_reducible rfl
              refine wpK_take0 (v := ?_) (a' := ?_) 20 rfl (by kernel_rfl) (by kernel_rfl) (by kernel_rfl) (by kernel_rfl) (fun _ _ _ h => h) ?_ ?_ ?_
              rotate_left 2
              · refine .inl ⟨by kernel_rfl, ?_⟩; intro wS hS; clear hS; go_simp; with_reducible rfl
              · go_simp; with_reducible rfl
              refine wpK_take0 (v := ?_) (a' := ?_) 21 rfl (by kernel_rfl) (by kernel_rfl) (by kernel_rfl) (by kernel_rfl) (fun _ _ _ h => h) ?_ ?_ ?_
              rotate_left 2
              · refine .inl ⟨by kernel_rfl, ?_⟩; intro wS hS; clear hS; go_simp; with_reducible rfl
              · go_simp; with_reducible rfl
              refine wpK_take0 (v := ?_) (a' := ?_) 22 rfl (by kernel_rfl) (by kernel_rfl) (by kernel_rfl) (by kernel_rfl) (fun _ _ _ h => h) ?_ ?_ ?_
              rotate_left 2
              · refine .inl ⟨by kernel_rfl, ?_⟩; intro wS hS; clear hS; go_simp; with_reducible rfl
              · go_simp; with_reducible rfl
              refine wpK_take0 (v := ?_) (a' := ?_) 23 rfl (by kernel_rfl) (by kernel_rfl) (by kernel_rfl) (by kernel_rfl) (fun _ _ _ h => h) ?_ ?_ ?_
              rotate_left 2
              · refine .inl ⟨by kernel_rfl, ?_⟩; intro wS hS; clear hS; go_simp; with_reducible rfl
              · go_simp; with_reducible rfl
              refine wpK_take (v := ?_) (a' := ?_) 24 rfl (by kernel_rfl) (by kernel_rfl) (by kernel_rfl) (by kernel_rfl) (by kernel_rfl) (fun _ _ _ h => h) (below_drew1 Hw7.out) ?_ ?_ ?_
              rotate_left 2
              · refine .inl ⟨by kernel_rfl, ?_⟩; intro wS hS; have hh := HX.out _ (HXW.out _ hS); have q0 : wS.cell? ⟨bx, ox, none⟩ = some (.int .i64 kx) := hh.1.1; have q1 : wS.cell? ⟨bx, ox + 1, none⟩ = some (.int .i64 nx) := hh.1.2.1; have q2 := hh.2.2.1; have q3 : wS.cell? ⟨bx, ox + 2, none⟩ = some (.string sx) := hh.1.2.2.1; have q4 : wS.cell? ⟨bx, ox + 3, none⟩ = some (.slice Ax lx.length cx) := hh.1.2.2.2; have r0 : wS.cell? ⟨by_, oy, none⟩ = some (.int .i64 ky) := hh.2.1.1; have r1 : wS.cell? ⟨by_, oy + 1, none⟩ = some (.int .i64 ny) := hh.2.1.2.1; have r3 : wS.cell? ⟨by_, oy + 2, none⟩ = some (.string sy) := hh.2.1.2.2.1; have r4 : wS.cell? ⟨by_, oy + 3, none⟩ = some (.slice Ay ly.length cy) := hh.2.1.2.2.2; have r2 := hh.2.2.2; clear hh; go_simp; with_reducible rfl
              · go_simp; with_reducible rfl
              refine wpK_take0 (v := ?_) (a' := ?_) 25 rfl (by kernel_rfl) (by kernel_rfl) (by kernel_rfl) (by kernel_rfl) (fun _ _ _ h => h) ?_ ?_ ?_
              rotate_left 2
              · refine .inl ⟨by kernel_rfl, ?_⟩; intro wS hS; clear hS; go_simp; with_reducible rfl
              · go_simp; with_reducible rfl
              refine wpK_take0 (v := ?_) (a' := ?_) 26 rfl (by kernel_rfl) (by kernel_rfl) (by kernel_rfl) (by kernel_rfl) (fun _ _ _ h => h) ?_ ?_ ?_
              rotate_left 2
              · refine .inl ⟨by kernel_rfl, ?_⟩; intro wS hS; clear hS; go_simp; with_reducible rfl
              · go_simp; with_reducible rfl
              refine wpK_take0 (v := ?_) (a' := ?_) 27 rfl (by kernel_rfl) (by kernel_rfl) (by kernel_rfl) (by kernel_rfl) (fun _ _ _ h => h) ?_ ?_ ?_
              rotate_left 2
              · refine .inl ⟨by kernel_rfl, ?_⟩; intro wS hS; clear hS; go_simp; with_reducible rfl
              · go_simp; with_reducible rfl
              refine wpK_take0 (v := ?_) (a' := ?_) 28 rfl (by kernel_rfl) (by kernel_rfl) (by kernel_rfl) (by kernel_rfl) (fun _ _ _ h => h) ?_ ?_ ?_
              rotate_left 2
              · refine .inl ⟨by kernel_rfl, ?_⟩; intro wS hS; clear hS; go_simp; with_reducible rfl
              · go_simp; with_reducible rfl
              refine wpK_take (v := ?_) (a' := ?_) 29 rfl (by kernel_rfl) (by kernel_rfl) (by kernel_rfl) (by kernel_rfl) (by kernel_rfl) (fun _ _ _ h => h) (below_drew1 Hw7.out) ?_ ?_ ?_
              rotate_left 2
              · refine .inl ⟨by kernel_rfl, ?_⟩; intro wS hS; have hh := HX.out _ (HXW.out _ hS); have q0 : wS.cell? ⟨bx, ox, none⟩ = some (.int .i64 kx) := hh.1.1; have q1 : wS.cell? ⟨bx, ox + 1, none⟩ = some (.int .i64 nx) := hh.1.2.1; have q2 := hh.2.2.1; have q3 : wS.cell? ⟨bx, ox + 2, none⟩ = some (.string sx) := hh.1.2.2.1; have q4 : wS.cell? ⟨bx, ox + 3, none⟩ = some (.slice Ax lx.length cx) := hh.1.2.2.2; have r0 : wS.cell? ⟨by_, oy, none⟩ = some (.int .i64 ky) := hh.2.1.1; have r1 : wS.cell? ⟨by_, oy + 1, none⟩ = some (.int .i64 ny) := hh.2.1.2.1; have r3 : wS.cell? ⟨by_, oy + 2, none⟩ = some (.string sy) := hh.2.1.2.2.1; have r4 : wS.cell? ⟨by_, oy + 3, none⟩ = some (.slice Ay ly.length cy) := hh.2.1.2.2.2; have r2 := hh.2.2.2; clear hh; go_simp; with_reducible rfl
              · go_simp; with_reducible rfl
              refine wpK_take0 (v := ?_) (a' := ?_) 30 rfl (by kernel_rfl) (by kernel_rfl) (by kernel_rfl) (by kernel_rfl) (fun _ _ _ h => h) ?_ ?_ ?_
              rotate_left 2
              · refine .inl ⟨by kernel_rfl, ?_⟩; intro wS hS; clear hS; go_simp; with_reducible rfl
              · go_simp; with_reducible rfl
              refine wpK_take0 (v := ?_) (a' := ?_) 31 rfl (by kernel_rfl) (by kernel_rfl) (by kernel_rfl) (by kernel_rfl) (fun _ _ _ h => h) ?_ ?_ ?_
              rotate_left 2
              · refine .inl ⟨by kernel_rfl, ?_⟩; intro wS hS; clear hS; go_simp; with_reducible rfl
              · go_simp; with_reducible rfl
              refine wpK_take0 (v := ?_) (a' := ?_) 32 rfl (by kernel_rfl) (by kernel_rfl) (by kernel_rfl) (by kernel_rfl) (fun _ _ _ h => h) ?_ ?_ ?_
              rotate_left 2
              · refine .inl ⟨by kernel_rfl, ?_⟩; intro wS hS; clear hS; go_simp; with_reducible rfl
              · go_simp; with_reducible rfl
              refine wpK_take0 (v := ?_) (a' := ?_) 33 rfl (by kernel_rfl) (by kernel_rfl) (by kernel_rfl) (by kernel_rfl) (fun _ _ _ h => h) ?_ ?_ ?_
              rotate_left 2
              · refine .inl ⟨by kernel_rfl, ?_⟩; intro wS hS; clear hS; go_simp; with_reducible rfl
              · go_simp; with_reducible rfl
              refine wpK_end (by kernel_rfl) ?_ _
              change Exit.then _ _ _ _ w7.drew
              obtain ⟨w11, hw11⟩ : ∃ x, x = w7.drew := ⟨_, rfl⟩
              rw [← hw11]
              have Hw11 : Hid (Below wr.heap.size wr w11) := Lib.hid (by rw [hw11]; exact below_drew1 Hw7.out)
              clear hw11
              go_wp2
              try rw [Exit.noGoto_ret]
              go_ret
              exact ⟨ret_bool (HAT.out.stop HLOC.out).symm, HFIN.out.trans (Hw11.out.mono HFIN.out.size)⟩
          · have hns : (sx.toList == sy.toList) = false := by rw [beq_eq_false_iff_ne]; intro e; exact hss ((bytes_eq _ _).1 e)
            have HLOC : Hid (loc va vb σ (.mk kx nx sx lx) (.mk ky ny sy ly) = none) := Lib.hid ((loc_con HK1.out).trans (if_neg fun h => hss h.2.1.symm))
            clear hky hss
            refine wp_region_K (fun w' => Below wr.heap.size wr w') (fun j => true) (by kernel_rfl) ?_
            refine wpK_take0 (v := ?_) (a' := ?_) 0 rfl (by kernel_rfl) (by kernel_rfl) (by kernel_rfl) (by kernel_rfl) (fun _ _ _ h => h) ?_ ?_ ?_
            rotate_left 2
            · refine .inl ⟨by kernel_rfl, ?_⟩; intro wS hS; clear hS; go_simp; with_reducible rfl
            · go_simp; with_reducible rfl
            refine wpK_take0 (v := ?_) (a' := ?_) 1 rfl (by kernel_rfl) (by kernel_rfl) (by kernel_rfl) (by kernel_rfl) (fun _ _ _ h => h) ?_ ?_ ?_
            rotate_left 2
            · refine .inl ⟨by kernel_rfl, ?_⟩; intro wS hS; clear hS; go_simp; with_reducible rfl
            · go_simp; with_reducible rfl
            refine wpK_take0 (v := ?_) (a' := ?_) 2 rfl (by kernel_rfl) (by kernel_rfl) (by kernel_rfl) (by kernel_rfl) (fun _ _ _ h => h) ?_ ?_ ?_
            rotate_left 2
            · refine .inl ⟨by kernel_rfl, ?_⟩; intro wS hS; clear hS; go_simp; with_reducible rfl
            · go_simp; with_reducible rfl
            refine wpK_take (v := ?_) (a' := ?_) 3 rfl (by kernel_rfl) (by kernel_rfl) (by kernel_rfl) (by kernel_rfl) (by kernel_rfl) (fun _ _ _ h => h) (below_drew1 Hw7.out) ?_ ?_ ?_
            rotate_left 2
            · refine .inl ⟨by kernel_rfl, ?_⟩; intro wS hS; have hh := HX.out _ (HXW.out _ hS); have q0 : wS.cell? ⟨bx, ox, none⟩ = some (.int .i64 kx) := hh.1.1; have q1 : wS.cell? ⟨bx, ox + 1, none⟩ = some (.int .i64 nx) := hh.1.2.1; have q2 := hh.2.2.1; have q3 : wS.cell? ⟨bx, ox + 2, none⟩ = some (.string sx) := hh.1.2.2.1; have q4 : wS.cell? ⟨bx, ox + 3, none⟩ = some (.slice Ax lx.length cx) := hh.1.2.2.2; have r0 : wS.cell? ⟨by_, oy, none⟩ = some (.int .i64 ky) := hh.2.1.1; have r1 : wS.cell? ⟨by_, oy + 1, none⟩ = some (.int .i64 ny) := hh.2.1.2.1; have r3 : wS.cell? ⟨by_, oy + 2, none⟩ = some (.string sy) := hh.2.1.2.2.1; have r4 : wS.cell? ⟨by_, oy + 3, none⟩ = some (.slice Ay ly.length cy) := hh.2.1.2.2.2; have r2 := hh.2.2.2; clear hh; go_simp; with_reducible rfl
            · go_simp; with_reducible rfl
            refine wpK_take0 (v := ?_) (a' := ?_) 4 rfl (by kernel_rfl) (by kernel_rfl) (by kernel_rfl) (by kernel_rfl) (fun _ _ _ h => h) ?_ ?_ ?_
            rotate_left 2
            · refine .inl ⟨by kernel_rfl, ?_⟩; intro wS hS; clear hS; go_simp; with_reducible rfl
            · go_simp; with_reducible rfl
            refine wpK_take0 (v := ?_) (a' := ?_) 5 rfl (by kernel_rfl) (by kernel_rfl) (by kernel_rfl) (by kernel_rfl) (fun _ _ _ h => h) ?_ ?_ ?_
            rotate_left 2
            · refine .inl ⟨by kernel_rfl, ?_⟩; intro wS hS; clear hS; go_simp; with_reducible rfl
            · go_simp; with_reducible rfl
            refine wpK_take0 (v := ?_) (a' := ?_) 6 rfl (by kernel_rfl) (by kernel_rfl) (by kernel_rfl) (by kernel_rfl) (fun _ _ _ h => h) ?_ ?_ ?_
            rotate_left 2
            · refine .inl ⟨by kernel_rfl, ?_⟩; intro wS hS; clear hS; go_simp; with_reducible rfl
            · go_simp; with_reducible rfl
            refine wpK_take (v := ?_) (a' := ?_) 7 rfl (by kernel_rfl) (by kernel_rfl) (by kernel_rfl) (by kernel_rfl) (by kernel_rfl) (fun _ _ _ h => h) (below_drew1 Hw7.out) ?_ ?_ ?_
            rotate_left 2
            · refine .inl ⟨by kernel_rfl, ?_⟩; intro wS hS; have hh := HX.out _ (HXW.out _ hS); have q0 : wS.cell? ⟨bx, ox, none⟩ = some (.int .i64 kx) := hh.1.1; have q1 : wS.cell? ⟨bx, ox + 1, none⟩ = some (.int .i64 nx) := hh.1.2.1; have q2 := hh.2.2.1; have q3 : wS.cell? ⟨bx, ox + 2, none⟩ = some (.string sx) := hh.1.2.2.1; have q4 : wS.cell? ⟨bx, ox + 3, none⟩ = some (.slice Ax lx.length cx) := hh.1.2.2.2; have r0 : wS.cell? ⟨by_, oy, none⟩ = some (.int .i64 ky) := hh.2.1.1; have r1 : wS.cell? ⟨by_, oy + 1, none⟩ = some (.int .i64 ny) := hh.2.1.2.1; have r3 : wS.cell? ⟨by_, oy + 2, none⟩ = some (.string sy) := hh.2.1.2.2.1; have r4 : wS.cell? ⟨by_, oy + 3, none⟩ = some (.slice Ay ly.length cy) := hh.2.1.2.2.2; have r2 := hh.2.2.2; clear hh; go_simp; with_reducible rfl
            · go_simp; with_reducible rfl
            refine wpK_take0 (v := ?_) (a' := ?_) 8 rfl (by kernel_rfl) (by kernel_rfl) (by kernel_rfl) (by kernel_rfl) (fun _ _ _ h => h) ?_ ?_ ?_
            rotate_left 2
            · refine .inl ⟨by kernel_rfl, ?_⟩; intro wS hS; clear hS; go_simp; with_reducible rfl
            · go_simp; with_reducible rfl
            refine wpK_take0 (v := ?_) (a' := ?_) 9 rfl (by kernel_rfl) (by kernel_rfl) (by kernel_rfl) (by kernel_rfl) (fun _ _ _ h => h) ?_ ?_ ?_
            rotate_left 2
            · refine .inl ⟨by kernel_rfl, ?_⟩; intro wS hS; clear hS; go_simp; with_reducible rfl
            · go_simp; with_reducible rfl
            refine wpK_take0 (v := ?_) (a' := ?_) 10 rfl (by kernel_rfl) (by kernel_rfl) (by kernel_rfl) (by kernel_rfl) (fun _ _ _ h => h) ?_ ?_ ?_
            rotate_left 2
            · refine .inl ⟨by kernel_rfl, ?_⟩; intro wS hS; clear hS; go_simp; with_reducible rfl
            · go_simp; with_reducible rfl
            refine wpK_take0 (v := ?_) (a' := ?_) 11 rfl (by kernel_rfl) (by kernel_rfl) (by kernel_rfl) (by kernel_rfl) (fun _ _ _ h => h) ?_ ?_ ?_
            rotate_left 2
            · refine .inl ⟨by kernel_rfl, ?_⟩; intro wS hS; clear hS; go_simp; with_reducible rfl
            · go_simp; with_reducible rfl
            refine wpK_take0 (v := ?_) (a' := ?_) 12 rfl (by kernel_rfl) (by kernel_rfl) (by kernel_rfl) (by kernel_rfl) (fun _ _ _ h => h) ?_ ?_ ?_
            rotate_left 2
            · refine .inl ⟨by kernel_rfl, ?_⟩; intro wS hS; clear hS; go_simp; with_reducible rfl
            · go_simp; with_reducible rfl
            refine wpK_take (v := ?_) (a' := ?_) 13 rfl (by kernel_rfl) (by kernel_rfl) (by kernel_rfl) (by kernel_rfl) (by kernel_rfl) (fun _ _ _ h => h) (below_drew1 Hw7.out) ?_ ?_ ?_
            rotate_left 2
            · refine .inl ⟨by kernel_rfl, ?_⟩; intro wS hS; have hh := HX.out _ (HXW.out _ hS); have q0 : wS.cell? ⟨bx, ox, none⟩ = some (.int .i64 kx) := hh.1.1; have q1 : wS.cell? ⟨bx, ox + 1, none⟩ = some (.int .i64 nx) := hh.1.2.1; have q2 := hh.2.2.1; have q3 : wS.cell? ⟨bx, ox + 2, none⟩ = some (.string sx) := hh.1.2.2.1; have q4 : wS.cell? ⟨bx, ox + 3, none⟩ = some (.slice Ax lx.length cx) := hh.1.2.2.2; have r0 : wS.cell? ⟨by_, oy, none⟩ = some (.int .i64 ky) := hh.2.1.1; have r1 : wS.cell? ⟨by_, oy + 1, none⟩ = some (.int .i64 ny) := hh.2.1.2.1; have r3 : wS.cell? ⟨by_, oy + 2, none⟩ = some (.string sy) := hh.2.1.2.2.1; have r4 : wS.cell? ⟨by_, oy + 3, none⟩ = some (.slice Ay ly.length cy) := hh.2.1.2.2.2; have r2 := hh.2.2.2; clear hh; go_simp; with_reducible rfl
            · go_simp; with_reducible rfl
            refine wpK_take0 (v := ?_) (a' := ?_) 14 rfl (by kernel_rfl) (by kernel_rfl) (by kernel_rfl) (by kernel_rfl) (fun _ _ _ h => h) ?_ ?_ ?_
            rotate_left 2
            · refine .inl ⟨by kernel_rfl, ?_⟩; intro wS hS; clear hS; go_simp; with_reducible rfl
            · go_simp; with_reducible rfl
            refine wpK_take0 (v := ?_) (a' := ?_) 15 rfl (by kernel_rfl) (by kernel_rfl) (by kernel_rfl) (by kernel_rfl) (fun _ _ _ h => h) ?_ ?_ ?_
            rotate_left 2
            · refine .inl ⟨by kernel_rfl, ?_⟩; intro wS hS; clear hS; go_simp; with_reducible rfl
            · go_simp; with_reducible rfl
            refine wpK_take0 (v := ?_) (a' := ?_) 16 rfl (by kernel_rfl) (by kernel_rfl) (by kernel_rfl) (by kernel_rfl) (fun _ _ _ h => h) ?_ ?_ ?_
            rotate_left 2
            · refine .inl ⟨by kernel_rfl, ?_⟩; intro wS hS; clear hS; go_simp; with_reducible rfl
            · go_simp; with_reducible rfl
            refine wpK_take (v := ?_) (a' := ?_) 17 rfl (by kernel_rfl) (by kernel_rfl) (by kernel_rfl) (by kernel_rfl) (by kernel_rfl) (fun _ _ _ h => h) (below_drew1 Hw7.out) ?_ ?_ ?_
            rotate_left 2
            · refine .inl ⟨by kernel_rfl, ?_⟩; intro wS hS; have hh := HX.out _ (HXW.out _ hS); have q0 : wS.cell? ⟨bx, ox, none⟩ = some (.int .i64 kx) := hh.1.1; have q1 : wS.cell? ⟨bx, ox + 1, none⟩ = some (.int .i64 nx) := hh.1.2.1; have q2 := hh.2.2.1; have q3 : wS.cell? ⟨bx, ox + 2, none⟩ = some (.string sx) := hh.1.2.2.1; have q4 : wS.cell? ⟨bx, ox + 3, none⟩ = some (.slice Ax lx.length cx) := hh.1.2.2.2; have r0 : wS.cell? ⟨by_, oy, none⟩ = some (.int .i64 ky) := hh.2.1.1; have r1 : wS.cell? ⟨by_, oy + 1, none⟩ = some (.int .i64 ny) := hh.2.1.2.1; have r3 : wS.cell? ⟨by_, oy + 2, none⟩ = some (.string sy) := hh.2.1.2.2.1; have r4 : wS.cell? ⟨by_, oy + 3, none⟩ = some (.slice Ay ly.length cy) := hh.2.1.2.2.2; have r2 := hh.2.2.2; clear hh; go_simp; with_reducible rfl
            · go_simp; with_reducible rfl
            refine wpK_take0 (v := ?_) (a' := ?_) 18 rfl (by kernel_rfl) (by kernel_rfl) (by kernel_rfl) (by kernel_rfl) (fun _ _ _ h => h) ?_ ?_ ?_
            rotate_left 2
            · refine .inl ⟨by kernel_rfl, ?_⟩; intro wS hS; clear hS; go_simp; with_reducible rfl
            · go_simp; with_reducible rfl
            refine wpK_take0 (v := ?_) (a' := ?_) 19 rfl (by kernel_rfl) (by kernel_rfl) (by kernel_rfl) (by kernel_rfl) (fun _ _ _ h => h) ?_ ?_ ?_
            rotate_left 2
            · refine .inl ⟨by kernel_rfl, ?_⟩; intro wS hS; clear hS; go_simp; with_reducible rfl
            · go_simp; with_reducible rfl
            refine wpK_take0 (v := ?_) (a' := ?_) 20 rfl (by kernel_rfl) (by kernel_rfl) (by kernel_rfl) (by kernel_rfl) (fun _ _ _ h => h) ?_ ?_ ?_
            rotate_left 2
            · refine .inl ⟨by kernel_rfl, ?_⟩; intro wS hS; clear hS; go_simp; with_reducible rfl
            · go_simp; with_reducible rfl
            refine wpK_take0 (v := undef) (a' := ?_) 21 rfl (by kernel_rfl) (by kernel_rfl) (by kernel_rfl) (by kernel_rfl) (fun _ _ _ h => h) ?_ ?_ ?_
            rotate_left 1
            · exact .inr ⟨by kernel_rfl, rfl⟩
            · go_simp; with_reducible rfl
            refine wpK_take0 (v := undef) (a' := ?_) 22 rfl (by kernel_rfl) (by kernel_rfl) (by kernel_rfl) (by kernel_rfl) (fun _ _ _ h => h) ?_ ?_ ?_
            rotate_left 1
            · exact .inr ⟨by kernel_rfl, rfl⟩
            · go_simp; with_reducible rfl
            refine wpK_take0 (v := undef) (a' := ?_) 23 rfl (by kernel_rfl) (by kernel_rfl) (by kernel_rfl) (by kernel_rfl) (fun _ _ _ h => h) ?_ ?_ ?_
            rotate_left 1
            · exact .inr ⟨by kernel_rfl, rfl⟩
            · go_simp; with_reducible rfl
            refine wpK_take0 (v := undef) (a' := ?_) 24 rfl (by kernel_rfl) (by kernel_rfl) (by kernel_rfl) (by kernel_rfl) (fun _ _ _ h => h) ?_ ?_ ?_
            rotate_left 1
            · exact .inr ⟨by kernel_rfl, rfl⟩
            · go_simp; with_reducible rfl
            refine wpK_take0 (v := undef) (a' := ?_) 25 rfl (by kernel_rfl) (by kernel_rfl) (by kernel_rfl) (by kernel_rfl) (fun _ _ _ h => h) ?_ ?_ ?_
            rotate_left 1
            · exact .inr ⟨by kernel_rfl, rfl⟩
            · go_simp; with_reducible rfl
            refine wpK_take0 (v := undef) (a' := ?_) 26 rfl (by kernel_rfl) (by kernel_rfl) (by kernel_rfl) (by kernel_rfl) (fun _ _ _ h => h) ?_ ?_ ?_
            rotate_left 1
            · exact .inr ⟨by kernel_rfl, rfl⟩
            · go_simp; with_reducible rfl
            refine wpK_take0 (v := undef) (a' := ?_) 27 rfl (by kernel_rfl) (by kernel_rfl) (by kernel_rfl) (by kernel_rfl) (fun _ _ _ h => h) ?_ ?_ ?_
            rotate_left 1
            · exact .inr ⟨by kernel_rfl, rfl⟩
            · go_simp; with_reducible rfl
            refine wpK_take0 (v := undef) (a' := ?_) 28 rfl (by kernel_rfl) (by kernel_rfl) (by kernel_rfl) (by kernel_rfl) (fun _ _ _ h => h) ?_ ?_ ?_
            rotate_left 1
            · exact .inr ⟨by kernel_rfl, rfl⟩
            · go_simp; with_reducible rfl
            refine wpK_take0 (v := undef) (a' := ?_) 29 rfl (by kernel_rfl) (by kernel_rfl) (by kernel_rfl) (by kernel_rfl) (fun _ _ _ h => h) ?_ ?_ ?_
            rotate_left 1
            · exact .inr ⟨by kernel_rfl, rfl⟩
            · go_simp; with_reducible rfl
            refine wpK_take0 (v := undef) (a' := ?_) 30 rfl (by kernel_rfl) (by kernel_rfl) (by kernel_rfl) (by kernel_rfl) (fun _ _ _ h => h) ?_ ?_ ?_
            rotate_left 1
            · exact .inr ⟨by kernel_rfl, rfl⟩
            · go_simp; with_reducible rfl
            refine wpK_take0 (v := undef) (a' := ?_) 31 rfl (by kernel_rfl) (by kernel_rfl) (by kernel_rfl) (by kernel_rfl) (fun _ _ _ h => h) ?_ ?_ ?_
            rotate_left 1
            · exact .inr ⟨by kernel_rfl, rfl⟩
            · go_simp; with_reducible rfl
            refine wpK_take0 (v := ?_) (a' := ?_) 32 rfl (by kernel_rfl) (by kernel_rfl) (by kernel_rfl) (by kernel_rfl) (fun _ _ _ h => h) ?_ ?_ ?_
            rotate_left 2
            · refine .inl ⟨by kernel_rfl, ?_⟩; intro wS hS; clear hS; go_simp; with_reducible rfl
            · go_simp; with_reducible rfl
            refine wpK_take0 (v := ?_) (a' := ?_) 33 rfl (by kernel_rfl) (by kernel_rfl) (by kernel_rfl) (by kernel_rfl) (fun _ _ _ h => h) ?_ ?_ ?_
            rotate_left 2
            · refine .inl ⟨by kernel_rfl, ?_⟩; intro wS hS; clear hS; go_simp; with_reducible rfl
            · go_simp; with_reducible rfl
            refine wpK_end (by kernel_rfl) ?_ _
            change Exit.then _ _ _ _ w7.drew
            obtain ⟨w11, hw11⟩ : ∃ x, x = w7.drew := ⟨_, rfl⟩
            rw [← hw11]
            have Hw11 : Hid (Below wr.heap.size wr w11) := Lib.hid (by rw [hw11]; exact below_drew1 Hw7.out)
            clear hw11
            go_wp2
            try rw [Exit.noGoto_ret]
            go_ret
            exact ⟨ret_bool (HAT.out.stop HLOC.out).symm, HFIN.out.trans (Hw11.out.mono HFIN.out.size)⟩
        · have hnk : (kx != ky) = true := by simpa using hky
          have HLOC : Hid (loc va vb σ (.mk kx nx sx lx) (.mk ky ny sy ly) = none) := Lib.hid ((loc_con HK1.out).trans (if_neg fun h => hky h.1.symm))
          clear hky
          refine wp_region_K (fun w' => Below wr.heap.size wr w') (fun j => true) (by kernel_rfl) ?_
          refine wpK_take0 (v := ?_) (a' := ?_) 0 rfl (by kernel_rfl) (by kernel_rfl) (by kernel_rfl) (by kernel_rfl) (fun _ _ _ h => h) ?_ ?_ ?_
          rotate_left 2
          · refine .inl ⟨by kernel_rfl, ?_⟩; intro wS hS; clear hS; go_simp; with_reducible rfl
          · go_simp; with_reducible rfl
          refine wpK_take0 (v := ?_) (a' := ?_) 1 rfl (by kernel_rfl) (by kernel_rfl) (by kernel_rfl) (by kernel_rfl) (fun _ _ _ h => h) ?_ ?_ ?_
          rotate_left 2
          · refine .inl ⟨by kernel_rfl, ?_⟩; intro wS hS; clear hS; go_simp; with_reducible rfl
          · go_simp; with_reducible rfl
          refine wpK_take0 (v := ?_) (a' := ?_) 2 rfl (by kernel_rfl) (by kernel_rfl) (by kernel_rfl) (by kernel_rfl) (fun _ _ _ h => h) ?_ ?_ ?_
          rotate_left 2
          · refine .inl ⟨by kernel_rfl, ?_⟩; intro wS hS; clear hS; go_simp; with_reducible rfl
          · go_simp; with_reducible rfl
          refine wpK_take (v := ?_) (a' := ?_) 3 rfl (by kernel_rfl) (by kernel_rfl) (by kernel_rfl) (by kernel_rfl) (by kernel_rfl) (fun _ _ _ h => h) (below_drew1 Hw7.out) ?_ ?_ ?_
          rotate_left 2
          · refine .inl ⟨by kernel_rfl, ?_⟩; intro wS hS; have hh := HX.out _ (HXW.out _ hS); have q0 : wS.cell? ⟨bx, ox, none⟩ = some (.int .i64 kx) := hh.1.1; have q1 : wS.cell? ⟨bx, ox + 1, none⟩ = some (.int .i64 nx) := hh.1.2.1; have q2 := hh.2.2.1; have q3 : wS.cell? ⟨bx, ox + 2, none⟩ = some (.string sx) := hh.1.2.2.1; have q4 : wS.cell? ⟨bx, ox + 3, none⟩ = some (.slice Ax lx.length cx) := hh.1.2.2.2; have r0 : wS.cell? ⟨by_, oy, none⟩ = some (.int .i64 ky) := hh.2.1.1; have r1 : wS.cell? ⟨by_, oy + 1, none⟩ = some (.int .i64 ny) := hh.2.1.2.1; have r3 : wS.cell? ⟨by_, oy + 2, none⟩ = some (.string sy) := hh.2.1.2.2.1; have r4 : wS.cell? ⟨by_, oy + 3, none⟩ = some (.slice Ay ly.length cy) := hh.2.1.2.2.2; have r2 := hh.2.2.2; clear hh; go_simp; with_reducible rfl
          · go_simp; with_reducible rfl
          refine wpK_take0 (v := ?_) (a' := ?_) 4 rfl (by kernel_rfl) (by kernel_rfl) (by kernel_rfl) (by kernel_rfl) (fun _ _ _ h => h) ?_ ?_ ?_
          rotate_left 2
          · refine .inl ⟨by kernel_rfl, ?_⟩; intro wS hS; clear hS; go_simp; with_reducible rfl
          · go_simp; with_reducible rfl
          refine wpK_take0 (v := ?_) (a' := ?_) 5 rfl (by kernel_rfl) (by kernel_rfl) (by kernel_rfl) (by kernel_rfl) (fun _ _ _ h => h) ?_ ?_ ?_
          rotate_left 2
          · refine .inl ⟨by kernel_rfl, ?_⟩; intro wS hS; clear hS; go_simp; with_reducible rfl
          · go_simp; with_reducible rfl
          refine wpK_take0 (v := ?_) (a' := ?_) 6 rfl (by kernel_rfl) (by kernel_rfl) (by kernel_rfl) (by kernel_rfl) (fun _ _ _ h => h) ?_ ?_ ?_
          rotate_left 2
          · refine .inl ⟨by kernel_rfl, ?_⟩; intro wS hS; clear hS; go_simp; with_reducible rfl
          · go_simp; with_reducible rfl
          refine wpK_take (v := ?_) (a' := ?_) 7 rfl (by kernel_rfl) (by kernel_rfl) (by kernel_rfl) (by kernel_rfl) (by kernel_rfl) (fun _ _ _ h => h) (below_drew1 Hw7.out) ?_ ?_ ?_
          rotate_left 2
          · refine .inl ⟨by kernel_rfl, ?_⟩; intro wS hS; have hh := HX.out _ (HXW.out _ hS); have q0 : wS.cell? ⟨bx, ox, none⟩ = some (.int .i64 kx) := hh.1.1; have q1 : wS.cell? ⟨bx, ox + 1, none⟩ = some (.int .i64 nx) := hh.1.2.1; have q2 := hh.2.2.1; have q3 : wS.cell? ⟨bx, ox + 2, none⟩ = some (.string sx) := hh.1.2.2.1; have q4 : wS.cell? ⟨bx, ox + 3, none⟩ = some (.slice Ax lx.length cx) := hh.1.2.2.2; have r0 : wS.cell? ⟨by_, oy, none⟩ = some (.int .i64 ky) := hh.2.1.1; have r1 : wS.cell? ⟨by_, oy + 1, none⟩ = some (.int .i64 ny) := hh.2.1.2.1; have r3 : wS.cell? ⟨by_, oy + 2, none⟩ = some (.string sy) := hh.2.1.2.2.1; have r4 : wS.cell? ⟨by_, oy + 3, none⟩ = some (.slice Ay ly.length cy) := hh.2.1.2.2.2; have r2 := hh.2.2.2; clear hh; go_simp; with_reducible rfl
          · go_simp; with_reducible rfl
          refine wpK_take0 (v := ?_) (a' := ?_) 8 rfl (by kernel_rfl) (by kernel_rfl) (by kernel_rfl) (by kernel_rfl) (fun _ _ _ h => h) ?_ ?_ ?_
          rotate_left 2
          · refine .inl ⟨by kernel_rfl, ?_⟩; intro wS hS; clear hS; go_simp; with_reducible rfl
          · go_simp; with_reducible rfl
          refine wpK_take0 (v := ?_) (a' := ?_) 9 rfl (by kernel_rfl) (by kernel_rfl) (by kernel_rfl) (by kernel_rfl) (fun _ _ _ h => h) ?_ ?_ ?_
          rotate_left 2
          · refine .inl ⟨by kernel_rfl, ?_⟩; intro wS hS; clear hS; go_simp; with_reducible rfl
          · go_simp; with_reducible rfl
          refine wpK_take0 (v := undef) (a' := ?_) 10 rfl (by kernel_rfl) (by kernel_rfl) (by kernel_rfl) (by kernel_rfl) (fun _ _ _ h => h) ?_ ?_ ?_
          rotate_left 1
          · exact .inr ⟨by kernel_rfl, rfl⟩
          · go_simp; with_reducible rfl
          refine wpK_take0 (v := undef) (a' := ?_) 11 rfl (by kernel_rfl) (by kernel_rfl) (by kernel_rfl) (by kernel_rfl) (fun _ _ _ h => h) ?_ ?_ ?_
          rotate_left 1
          · exact .inr ⟨by kernel_rfl, rfl⟩
          · go_simp; with_reducible rfl
          refine wpK_take0 (v := undef) (a' := ?_) 12 rfl (by kernel_rfl) (by kernel_rfl) (by kernel_rfl) (by kernel_rfl) (fun _ _ _ h => h) ?_ ?_ ?_
          rotate_left 1
          · exact .inr ⟨by kernel_rfl, rfl⟩
          · go_simp; with_reducible rfl
          refine wpK_take0 (v := undef) (a' := ?_) 13 rfl (by kernel_rfl) (by kernel_rfl) (by kernel_rfl) (by kernel_rfl) (fun _ _ _ h => h) ?_ ?_ ?_
          rotate_left 1
          · exact .inr ⟨by kernel_rfl, rfl⟩
          · go_simp; with_reducible rfl
          refine wpK_take0 (v := undef) (a' := ?_) 14 rfl (by kernel_rfl) (by kernel_rfl) (by kernel_rfl) (by kernel_rfl) (fun _ _ _ h => h) ?_ ?_ ?_
          rotate_left 1
          · exact .inr ⟨by kernel_rfl, rfl⟩
          · go_simp; with_reducible rfl
          refine wpK_take0 (v := undef) (a' := ?_) 15 rfl (by kernel_rfl) (by kernel_rfl) (by kernel_rfl) (by kernel_rfl) (fun _ _ _ h => h) ?_ ?_ ?_
          rotate_left 1
          · exact .inr ⟨by kernel_rfl, rfl⟩
          · go_simp; with_reducible rfl
          refine wpK_take0 (v := undef) (a' := ?_) 16 rfl (by kernel_rfl) (by kernel_rfl) (by kernel_rfl) (by kernel_rfl) (fun _ _ _ h => h) ?_ ?_ ?_
          rotate_left 1
          · exact .inr ⟨by kernel_rfl, rfl⟩
          · go_simp; with_reducible rfl
          refine wpK_take0 (v := undef) (a' := ?_) 17 rfl (by kernel_rfl) (by kernel_rfl) (by kernel_rfl) (by kernel_rfl) (fun _ _ _ h => h) ?_ ?_ ?_
          rotate_left 1
          · exact .inr ⟨by kernel_rfl, rfl⟩
          · go_simp; with_reducible rfl
          refine wpK_take0 (v := undef) (a' := ?_) 18 rfl (by kernel_rfl) (by kernel_rfl) (by kernel_rfl) (by kernel_rfl) (fun _ _ _ h => h) ?_ ?_ ?_
          rotate_left 1
          · exact .inr ⟨by kernel_rfl, rfl⟩
          · go_simp; with_reducible rfl
          refine wpK_take0 (v := ?_) (a' := ?_) 19 rfl (by kernel_rfl) (by kernel_rfl) (by kernel_rfl) (by kernel_rfl) (fun _ _ _ h => h) ?_ ?_ ?_
          rotate_left 2
          · refine .inl ⟨by kernel_rfl, ?_⟩; intro wS hS; clear hS; go_simp; with_reducible rfl
          · go_simp; with_reducible rfl
          refine wpK_take0 (v := ?_) (a' := ?_) 20 rfl (by kernel_rfl) (by kernel_rfl) (by kernel_rfl) (by kernel_rfl) (fun _ _ _ h => h) ?_ ?_ ?_
          rotate_left 2
          · refine .inl ⟨by kernel_rfl, ?_⟩; intro wS hS; clear hS; go_simp; with_reducible rfl
          · go_simp; with_reducible rfl
          refine wpK_take0 (v := undef) (a' := ?_) 21 rfl (by kernel_rfl) (by kernel_rfl) (by kernel_rfl) (by kernel_rfl) (fun _ _ _ h => h) ?_ ?_ ?_
          rotate_left 1
          · exact .inr ⟨by kernel_rfl, rfl⟩
          · go_simp; with_reducible rfl
          refine wpK_take0 (v := undef) (a' := ?_) 22 rfl (by kernel_rfl) (by kernel_rfl) (by kernel_rfl) (by kernel_rfl) (fun _ _ _ h => h) ?_ ?_ ?_
          rotate_left 1
          · exact .inr ⟨by kernel_rfl, rfl⟩
          · go_simp; with_reducible rfl
          refine wpK_take0 (v := undef) (a' := ?_) 23 rfl (by kernel_rfl) (by kernel_rfl) (by kernel_rfl) (by kernel_rfl) (fun _ _ _ h => h) ?_ ?_ ?_
          rotate_left 1
          · exact .inr ⟨by kernel_rfl, rfl⟩
          · go_simp; with_reducible rfl
          refine wpK_take0 (v := undef) (a' := ?_) 24 rfl (by kernel_rfl) (by kernel_rfl) (by kernel_rfl) (by kernel_rfl) (fun _ _ _ h => h) ?_ ?_ ?_
          rotate_left 1
          · exact .inr ⟨by kernel_rfl, rfl⟩
          · go_simp; with_reducible rfl
          refine wpK_take0 (v := undef) (a' := ?_) 25 rfl (by kernel_rfl) (by kernel_rfl) (by kernel_rfl) (by kernel_rfl) (fun _ _ _ h => h) ?_ ?_ ?_
          rotate_left 1
          · exact .inr ⟨by kernel_rfl, rfl⟩
          · go_simp; with_reducible rfl
          refine wpK_take0 (v := undef) (a' := ?_) 26 rfl (by kernel_rfl) (by kernel_rfl) (by kernel_rfl) (by kernel_rfl) (fun _ _ _ h => h) ?_ ?_ ?_
          rotate_left 1
          · exact .inr ⟨by kernel_rfl, rfl⟩
          · go_simp; with_reducible rfl
          refine wpK_take0 (v := undef) (a' := ?_) 27 rfl (by kernel_rfl) (by kernel_rfl) (by kernel_rfl) (by kernel_rfl) (fun _ _ _ h => h) ?_ ?_ ?_
          rotate_left 1
          · exact .inr ⟨by kernel_rfl, rfl⟩
          · go_simp; with_reducible rfl
          refine wpK_take0 (v := undef) (a' := ?_) 28 rfl (by kernel_rfl) (by kernel_rfl) (by kernel_rfl) (by kernel_rfl) (fun _ _ _ h => h) ?_ ?_ ?_
          rotate_left 1
          · exact .inr ⟨by kernel_rfl, rfl⟩
          · go_simp; with_reducible rfl
          refine wpK_take0 (v := undef) (a' := ?_) 29 rfl (by kernel_rfl) (by kernel_rfl) (by kernel_rfl) (by kernel_rfl) (fun _ _ _ h => h) ?_ ?_ ?_
          rotate_left 1
          · exact .inr ⟨by kernel_rfl, rfl⟩
          · go_simp; with_reducible rfl
          refine wpK_take0 (v := undef) (a' := ?_) 30 rfl (by kernel_rfl) (by kernel_rfl) (by kernel_rfl) (by kernel_rfl) (fun _ _ _ h => h) ?_ ?_ ?_
          rotate_left 1
          · exact .inr ⟨by kernel_rfl, rfl⟩
          · go_simp; with_reducible rfl
          refine wpK_take0 (v := undef) (a' := ?_) 31 rfl (by kernel_rfl) (by kernel_rfl) (by kernel_rfl) (by kernel_rfl) (fun _ _ _ h => h) ?_ ?_ ?_
          rotate_left 1
          · exact .inr ⟨by kernel_rfl, rfl⟩
          · go_simp; with_reducible rfl
          refine wpK_take0 (v := ?_) (a' := ?_) 32 rfl (by kernel_rfl) (by kernel_rfl) (by kernel_rfl) (by kernel_rfl) (fun _ _ _ h => h) ?_ ?_ ?_
          rotate_left 2
          · refine .inl ⟨by kernel_rfl, ?_⟩; intro wS hS; clear hS; go_simp; with_reducible rfl
          · go_simp; with_reducible rfl
          refine wpK_take0 (v := ?_) (a' := ?_) 33 rfl (by kernel_rfl) (by kernel_rfl) (by kernel_rfl) (by kernel_rfl) (fun _ _ _ h => h) ?_ ?_ ?_
          rotate_left 2
          · refine .inl ⟨by kernel_rfl, ?_⟩; intro wS hS; clear hS; go_simp; with_reducible rfl
          · go_simp; with_reducible rfl
          refine wpK_end (by kernel_rfl) ?_ _
          change Exit.then _ _ _ _ w7.drew
          obtain ⟨w11, hw11⟩ : ∃ x, x = w7.drew := ⟨_, rfl⟩
          rw [← hw11]
          have Hw11 : Hid (Below wr.heap.size wr w11) := Lib.hid (by rw [hw11]; exact below_drew1 Hw7.out)
          clear hw11
          go_wp2
          try rw [Exit.noGoto_ret]
          go_ret
          exact ⟨ret_bool (HAT.out.stop HLOC.out).symm, HFIN.out.trans (Hw11.out.mono HFIN.out.size)⟩
end Go.Proofs.YtoopopjcojphaaaGreatDoor
