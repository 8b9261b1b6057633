import Derived.Test.YtoopopjcojphaaaGreatDoorRows
import Derived.Test.YtoopopjcojphaaaGreatDoorQD
import Derived.ChangeSlices
import Derived.Deep.Slices
import Derived.Deep.Fields
/-
  FROM A READING TO TYPES: an argument that is a type, or a slice of types, of bounded bulk.
-/
namespace Go.Proofs.YtoopopjcojphaaaGreatDoor
open Go.ChangeShapes Go.WideShapes Go.ChangeAt Go.RowKit Go.Deep
set_option linter.unusedVariables false
theorem of_wf {x : Int} (h : (Lit.int .i64 x).wf = true) : -9223372036854775808 ≤ x ∧ x ≤ 9223372036854775807 := by
  simp [Lit.wf] at h
  exact ⟨Int.le_trans (by decide) h.1, h.2⟩
theorem list_of {α : Type} (Q : Nat → α → Prop) : ∀ n, (∀ i, i < n → ∃ t, Q i t) → ∃ l : List α, l.length = n ∧ ∀ i t, l[i]? = some t → Q i t
  | 0, _ => ⟨[], rfl, fun i t h => by simp at h⟩
  | n + 1, h => by
    obtain ⟨l, hl, hq⟩ := list_of Q n fun i hi => h i (by omega)
    obtain ⟨t, ht⟩ := h n (by omega)
    refine ⟨l ++ [t], by simp [hl], fun i u hu => ?_⟩
    by_cases hi : i < n
    · rw [List.getElem?_append_left (by omega)] at hu; exact hq i u hu
    · have hlt := (List.getElem?_eq_some_iff.1 hu).1
      simp at hlt
      obtain rfl : i = n := by omega
      rw [List.getElem?_append_right (by omega), hl, Nat.sub_self] at hu
      simp at hu; subst hu; exact ht
theorem four {α : Type} (l : List α) (h : l.length = 4) : ∃ a b c d, l = [a, b, c, d] := by
  match l, h with
  | [a, b, c, d], _ => exact ⟨a, b, c, d, rfl⟩
theorem spot_of {w : World} {a : Addr} {v : Value} (h : w.cell? a = some v) : a = ⟨a.block, a.off, none⟩ := by
  obtain ⟨b, o, sp⟩ := a
  unfold World.cell? at h
  cases sp with
  | none => rfl
  | some x => cases hb : w.heap[b]? with
    | none => simp [hb] at h
    | some ob => cases ob <;> simp [hb] at h
section
variable {H : Type}
set_option maxRecDepth 100000 in
theorem bulk_bound {l : List (DataW H)} (hk : Rows.uptoSmall H l = true) : Rows.uptoBulkAll l ≤ 1048576 := of_decide_eq_true hk
theorem bulk_one (d : DataW H) : 1 ≤ Rows.uptoBulk d := by
  cases d with
  | lit l => cases l <;> simp [Rows.uptoBulk]
  | nil => simp [Rows.uptoBulk]
  | ptr d => simp [Rows.uptoBulk]
  | slice elems spare => simp [Rows.uptoBulk]
  | agg parts => simp [Rows.uptoBulk]
  | iface t d => simp [Rows.uptoBulk]
  | map entries => simp [Rows.uptoBulk]
  | held h => simp [Rows.uptoBulk]
theorem bulk_part {d : DataW H} {l : List (DataW H)} (h : d ∈ l) : Rows.uptoBulk d ≤ Rows.uptoBulkAll l := by
  induction l with
  | nil => cases h
  | cons x r ih =>
    simp only [Rows.uptoBulkAll]
    cases List.mem_cons.1 h with
    | inl e => subst e; omega
    | inr e => have := ih e; omega
theorem bulk_all {α : Type} {f : α → Nat} {l : List α} {ds : List (DataW H)} (hl : l.length = ds.length) (h : ∀ (i : Nat) (a : α) (d : DataW H), l[i]? = some a → ds[i]? = some d → f a ≤ Rows.uptoBulk d) : (l.map f).sum ≤ Rows.uptoBulkAll ds := by
  induction l generalizing ds with
  | nil => simp
  | cons a r ih =>
    cases ds with
    | nil => simp at hl
    | cons d q =>
      have h0 := h 0 a d rfl rfl
      have := ih (ds := q) (by simpa using hl) fun i x y hx hy => h (i + 1) x y (by simpa using hx) (by simpa using hy)
      simp only [List.map_cons, List.sum_cons, Rows.uptoBulkAll]; omega
theorem bulkL_sum (l : List Tt) : bulkL l = (l.map bulk).sum := by
  induction l with
  | nil => rfl
  | cons t r ih => simp [bulkL, ih]
variable {enc : TypeId × Value → H} {w : World}
theorem tys_step {fuel : Nat} {v : Value} {y : DataW H × List MemPlace} (h : DataW.trod enc Tryz.prog w 0 (fun _ => true) true fuel 23 [v] = some y)
    (ih : ∀ (n : Nat) (cs : List Value) (z : DataW H × List MemPlace), DataW.trod enc Tryz.prog w 0 (fun _ => true) true n 25 cs = some z → Rows.uptoBulk z.1 < Rows.uptoBulk y.1 → ∃ t, TyR.rd w (Lt w.heap.size) t cs ∧ bulk t ≤ Rows.uptoBulk z.1) :
    ∃ (l : List Tt) (A : Option Addr) (c : Nat), v = .slice A l.length c ∧ Rows TyR 4 w (Lt w.heap.size) A l ∧ bulkL l + 1 ≤ Rows.uptoBulk y.1 ∧ l.length ≤ c ∧ c ≤ maxLen := by
  rcases open_slice Tryz.underlying23 h with ⟨hv, hy⟩ | ⟨a, len, cap, m, n, D, Pl, hcs, hb, hl, hm, hmm, hx, hi⟩
  · simp only [List.cons.injEq, and_true] at hv
    exact ⟨[], none, 0, hv, Rows.nil, by rw [hy]; simp [bulkL, Rows.uptoBulk], Nat.le_refl _, Nat.zero_le _⟩
  · simp only [List.cons.injEq, and_true] at hcs
    simp only [if_true] at hmm
    have hy : y.1 = .slice ((List.range len).map D) ((List.range (m - len)).map fun j => D (len + j)) := by rw [hx]
    have hC : Tryz.prog.cellsOf 25 = 4 := by kernel_rfl
    rw [hC] at hi
    have hin : ∀ i, i < len → Rows.uptoBulk (D i) < Rows.uptoBulk y.1 := fun i hi => by
      have := bulk_part (d := D i) (l := (List.range len).map D) (List.mem_map.2 ⟨i, List.mem_range.2 hi, rfl⟩)
      rw [hy]; simp only [Rows.uptoBulk]; omega
    obtain ⟨l, hll, hq⟩ := list_of (fun i t => bulk t ≤ Rows.uptoBulk (D i) ∧ ∃ cs, w.cells? 0 (a.add (i * 4)) 4 = some cs ∧ TyR.rd w (Lt w.heap.size) t cs) len fun i hlt => by
      obtain ⟨cs, hc, htr⟩ := hi i (by omega)
      obtain ⟨t, ht, hbk⟩ := ih n cs _ htr (hin i hlt)
      exact ⟨t, hbk, cs, hc, ht⟩
    refine ⟨l, some a, cap, by rw [hll]; exact hcs, fun i t ht => ?_, ?_, by omega, hm⟩
    · have hlt : i < len := by have := (List.getElem?_eq_some_iff.1 ht).1; omega
      obtain ⟨_, cs, hc, hr⟩ := hq i t ht
      obtain ⟨_, hcl, hat⟩ := World.cells?_some hc
      obtain ⟨cs0, hc0, _⟩ := hi 0 (by omega)
      obtain ⟨_, hcl0, hat0⟩ := World.cells?_some hc0
      have ha0 := hat0 0 (by omega)
      rw [List.getElem?_eq_getElem (by omega)] at ha0
      have hsp := spot_of (show w.cell? a = some _ from ha0)
      refine ⟨a.block, a.off, cs, congrArg some hsp, World.block_lt_of_cell? w a ha0, fun j u hj => ?_, hr⟩
      have hjl : j < 4 := by have := (List.getElem?_eq_some_iff.1 hj).1; omega
      have := hat j hjl
      rw [hsp, Addr.add_mid, Addr.add_mid] at this
      rw [this]; exact hj
    · have := bulk_all (f := bulk) (l := l) (ds := (List.range len).map D) (by simp [hll]) fun i x d hx hd => by
        have hlt : i < len := by have := (List.getElem?_eq_some_iff.1 hx).1; omega
        rw [List.getElem?_map, List.getElem?_range hlt] at hd
        simp at hd; subst hd
        exact (hq i x hx).1
      rw [← bulkL_sum] at this
      rw [hy]; simp only [Rows.uptoBulk]; omega
theorem ty_open : ∀ (m fuel : Nat) (cs : List Value) (y : DataW H × List MemPlace), DataW.trod enc Tryz.prog w 0 (fun _ => true) true fuel 25 cs = some y → Rows.uptoBulk y.1 ≤ m → m ≤ 1048576 → ∃ t, TyR.rd w (Lt w.heap.size) t cs ∧ bulk t ≤ Rows.uptoBulk y.1 := by
  intro m
  induction m with
  | zero => intro fuel cs y _ h; have := bulk_one y.1; omega
  | succ m ih =>
    intro fuel cs y h hm hM
    obtain ⟨ys, n', _, hyy, hcl, hyl, hf⟩ := DataW.trod_struct Tryz.underlying25 h
    have hC : Tryz.prog.cellsOf 25 = 4 := by kernel_rfl
    rw [hC] at hcl
    obtain ⟨y0, y1, y2, y3, rfl⟩ := four ys hyl
    obtain ⟨c0, c1, c2, c3, rfl⟩ := four cs hcl
    have k1 : Tryz.prog.cellsOf 22 = 1 := by kernel_rfl
    have k2 : Tryz.prog.cellsOf 3 = 1 := by kernel_rfl
    have k3 : Tryz.prog.cellsOf 9 = 1 := by kernel_rfl
    have k4 : Tryz.prog.cellsOf 23 = 1 := by kernel_rfl
    have g0 : DataW.trod enc Tryz.prog w 0 (fun _ => true) true n' 22 (([c0, c1, c2, c3].drop 0).take (Tryz.prog.cellsOf 22)) = some y0 := hf 0 _ rfl
    have g1 : DataW.trod enc Tryz.prog w 0 (fun _ => true) true n' 3 (([c0, c1, c2, c3].drop 1).take (Tryz.prog.cellsOf 3)) = some y1 := hf 1 _ rfl
    have g2 : DataW.trod enc Tryz.prog w 0 (fun _ => true) true n' 9 (([c0, c1, c2, c3].drop 2).take (Tryz.prog.cellsOf 9)) = some y2 := hf 2 _ rfl
    have g3 : DataW.trod enc Tryz.prog w 0 (fun _ => true) true n' 23 (([c0, c1, c2, c3].drop 3).take (Tryz.prog.cellsOf 23)) = some y3 := hf 3 _ rfl
    rw [k1] at g0; rw [k2] at g1; rw [k3] at g2; rw [k4] at g3
    simp only [List.drop_zero, List.drop_succ_cons, List.take_succ_cons, List.take_zero] at g0 g1 g2 g3
    obtain ⟨x0, e0, f0, _⟩ := DataW.trod_int Tryz.underlying22 g0
    obtain ⟨x1, e1, f1, w1⟩ := DataW.trod_int Tryz.underlying3 g1
    obtain ⟨x2, e2, f2, _⟩ := DataW.trod_string Tryz.underlying9 g2
    simp only [List.cons.injEq, and_true] at e0 e1 e2
    subst e0; subst e1; subst e2
    have hyb : Rows.uptoBulk y.1 = x2.size + Rows.uptoBulk y3.1 + 4 := by
      rw [hyy, f0, f1, f2]
      simp [Rows.uptoBulk, Rows.uptoBulkAll]
      have : x2.data.size = x2.size := rfl
      omega
    obtain ⟨l, A, c, hv, hrows, hbl, _, _⟩ := tys_step g3 fun n cs z hz hlt => ih n cs z hz (by omega) (by omega)
    subst hv
    have h4 := bulkL_len l
    exact ⟨.mk x0 x1 x2 l, TyR.mk (of_wf w1) (by omega) (by omega) hrows, by simp only [bulk]; omega⟩
theorem tys_open {fuel : Nat} {v : Value} {y : DataW H × List MemPlace} (h : DataW.trod enc Tryz.prog w 0 (fun _ => true) true fuel 23 [v] = some y) (hm : Rows.uptoBulk y.1 ≤ 1048576) :
    ∃ (l : List Tt) (A : Option Addr) (c : Nat), v = .slice A l.length c ∧ Rows TyR 4 w (Lt w.heap.size) A l ∧ bulkL l + 1 ≤ Rows.uptoBulk y.1 ∧ l.length ≤ c ∧ c ≤ maxLen :=
  tys_step h fun n cs z hz hlt => ty_open 1048576 n cs z hz (by omega) (Nat.le_refl _)
set_option maxRecDepth 100000 in
theorem ty_arg {v : Value} {d : DataW H} {p : List MemPlace} (o : Value.okWide Tryz.prog w .any 0 25 v) (r : DataW.Trod enc Tryz.prog w 0 (fun _ => true) true 25 v d p) (hm : Rows.uptoBulk d ≤ 1048576) : ∃ t, Val w t v ∧ bulk t ≤ Rows.uptoBulk d := by
  obtain ⟨cs, rfl, _⟩ := okWide_struct Tryz.underlying25 o
  obtain ⟨fuel, hr⟩ := r
  obtain ⟨t, ht, hb⟩ := ty_open 1048576 fuel cs.toList (d, p) hr hm (Nat.le_refl _)
  obtain ⟨A, c, hcs, _⟩ := TyR.open_ ht
  refine ⟨t, ⟨A, c, ?_, by rw [← hcs]; exact ht⟩, hb⟩
  rw [← Array.toList_inj.1 (show cs.toList = (#[.int .i64 t.kind, .int .i64 t.num, .string t.name, .slice A t.args.length c] : Array Value).toList from hcs)]
set_option maxRecDepth 100000 in
theorem tys_arg {v : Value} {d : DataW H} {p : List MemPlace} (o : Value.okWide Tryz.prog w .any 0 23 v) (r : DataW.Trod enc Tryz.prog w 0 (fun _ => true) true 23 v d p) (hm : Rows.uptoBulk d ≤ 1048576) :
    ∃ (l : List Tt) (A : Option Addr) (c : Nat), v = .slice A l.length c ∧ Rows TyR 4 w (Lt w.heap.size) A l ∧ bulkL l + 1 ≤ Rows.uptoBulk d ∧ l.length ≤ c ∧ c ≤ maxLen := by
  obtain ⟨a0, len0, cap0, rfl⟩ := okWide_slice Tryz.underlying23 o
  obtain ⟨fuel, hr⟩ := r
  exact tys_open (y := (d, p)) hr hm
theorem bulk_len {t : Tt} {n : Nat} (h : bulk t ≤ n) (hn : n ≤ 1048576) : (pre t).length ≤ 1048576 := by have := pre_le t; omega
theorem bulkL_each {l : List Tt} {n : Nat} (h : bulkL l ≤ n) (hn : n ≤ 1048576) : l.length ≤ 1048576 ∧ ∀ t ∈ l, (pre t).length ≤ 1048576 := by
  refine ⟨by have := bulkL_len l; omega, fun t ht => bulk_len (Nat.le_trans (bulk_mem ht) h) hn⟩
end
end Go.Proofs.YtoopopjcojphaaaGreatDoor
