import Derived.Orders
import Derived.RegionTactic
import Derived.Test.YtoopopjcojphaaaGreatDoorQA
import Derived.ChangeSlices
import Derived.Test.YtoopopjcojphaaaGreatDoorQS
/-
  A REGION THAT DRAWS ITS ORDER, WHERE EACH OPERATION GIVES ONE VALUE IN EVERY WORLD THAT MEETS A CONDITION S, AND KEEPS S: loads, calls that answer the same in each such world, makes of memory. Whatever order is drawn, the frame behind it is the same and the world meets S: the region is walked ONCE, in the order of the text, operations whose guard is false are passed over, and what follows is walked once. Nothing of the program is named here.
-/
namespace Go.Proofs.YtoopopjcojphaaaGreatDoor
section
variable {P : Program} {ops : Array Oper} {Q : Exit → Act → World → Prop} {md : Region.Mode} {S : World → Prop}
def NoQ : Exit → Act → World → Prop := fun _ _ _ => False
/-- In state a, in every world that meets S, operation o leaves v in its slot, and the world behind it meets S; or its guard says no. -/
def StepS (P : Program) (ops : Array Oper) (S : World → Prop) (o : Oper) (v : Value) (a : Act) : Prop :=
  (Region.wanted o (yielded ops a.tmps) = true ∧ ∀ w, S w → o.wp P a w (fun b w' => b = a.put o.dst v ∧ S w') NoQ) ∨ (Region.wanted o (yielded ops a.tmps) = false ∧ v = undef)

theorem wp_use {o : Oper} {a : Act} {w : World} {v : Value} {K : Act → World → Prop} (h : o.wp P a w (fun b w' => b = a.put o.dst v ∧ S w') NoQ) (hK : ∀ w', S w' → K (a.put o.dst v) w') : o.wp P a w K Q := by
  unfold Oper.wp at *
  generalize (execOp a.eval o).run P w = r at *
  cases r with
  | ok n w' =>
    cases n <;> simp only [Oper.upon] at h ⊢
    case value u => rw [h.1]; exact hK _ h.2
    case skip => rw [h.1]; exact hK _ h.2
    case defer d => rw [h.1]; exact hK _ h.2
    case enter f args =>
      refine Calls.mono h fun e w'' he => ?_
      cases e with
      | returned u => simp only at he ⊢; rw [he.1]; exact hK _ he.2
      | panicked c => exact he.elim
      | outgrown => obtain ⟨_, _, hf⟩ := he; exact hf.elim
    case row row args => exact Rows.mono h fun u w'' he => by rw [he.1]; exact hK _ he.2
  | halt x w' => cases x <;> simp only [Oper.upon] at h ⊢; exact h.elim
theorem wp_frame {o : Oper} {a a' : Act} {w : World} {v : Value} (h : o.wp P a w (fun b w' => b = a.put o.dst v ∧ S w') NoQ) (he : execOp a'.eval o = execOp a.eval o)
    (hp : ∀ u, a.put o.dst u = a.put o.dst v → a'.put o.dst u = a'.put o.dst v) : o.wp P a' w (fun b w' => b = a'.put o.dst v ∧ S w') NoQ := by
  unfold Oper.wp at *
  rw [he]
  generalize (execOp a.eval o).run P w = r at *
  cases r with
  | ok n w' =>
    cases n <;> simp only [Oper.upon] at h ⊢
    case value u => exact ⟨hp _ h.1, h.2⟩
    case skip => exact ⟨hp _ h.1, h.2⟩
    case defer d =>
      have h1 := congrArg Act.defers h.1
      have h2 : ∀ (b : Act) (t : Option Tmp) (x : Value), (b.put t x).defers = b.defers := fun b t x => by cases t <;> rfl
      rw [h2, h2] at h1
      exact absurd (congrArg List.length h1) (by simp)
    case enter f args =>
      refine Calls.mono h fun e w'' hh => ?_
      cases e with
      | returned u => exact ⟨hp _ hh.1, hh.2⟩
      | panicked c => exact hh.elim
      | outgrown => exact hh
    case row row args => exact Rows.mono h fun u w'' hh => ⟨hp _ hh.1, hh.2⟩
  | halt x w' => cases x <;> simp only [Oper.upon] at h ⊢; exact h.elim

theorem put_there {a : Act} {t d : Option Tmp} {x u v : Value} (h : ∀ e, d = some e → t ≠ some e) (e : a.put t u = a.put t v) : (a.put d x).put t u = (a.put d x).put t v := by
  rw [Act.put_comm a x u h, Act.put_comm a x v h, e]
theorem put_back {a : Act} {t d : Option Tmp} {x u v : Value} (h : ∀ e, d = some e → t ≠ some e) (e : (a.put d x).put t u = (a.put d x).put t v) : a.put t u = a.put t v := by
  cases t with
  | none => rfl
  | some t =>
    have h1 : ∀ z, ((a.put d x).put (some t) z).tmps[t]? = if t < a.tmps.size then some z else none := fun z => by
      have hs : (a.put d x).tmps.size = a.tmps.size := by cases d <;> simp [Act.put]
      simp only [Act.put]
      rw [Array.getElem?_setIfInBounds]
      simp only [if_true, Act.put] at hs ⊢
      rw [hs]
    have h2 := congrArg (fun b : Act => b.tmps[t]?) e
    simp only [h1] at h2
    by_cases hlt : t < a.tmps.size
    · rw [if_pos hlt, if_pos hlt] at h2
      rw [Option.some.inj h2]
    · have h3 : ∀ z, a.tmps.setIfInBounds t z = a.tmps := fun z => by
        rw [Array.setIfInBounds, dif_neg hlt]
      simp only [Act.put, h3]

theorem StepS.there {o : Oper} {v : Value} {a : Act} {d : Option Tmp} {x : Value} (h : StepS P ops S o v a) (hs : ∀ cs b, o.op ≠ .select cs b) (h1 : ∀ e, d = some e → e ∉ o.looksAt ops) (h2 : ∀ e, d = some e → o.dst ≠ some e) : StepS P ops S o v (a.put d x) := by
  rcases h with ⟨hw, h⟩ | ⟨hw, h⟩
  · exact .inl ⟨by rw [wanted_put o a d x h1]; exact hw, fun w hS => wp_frame (h w hS) (execOp_put o hs a d x h1) fun u e => put_there h2 e⟩
  · exact .inr ⟨by rw [wanted_put o a d x h1]; exact hw, h⟩
theorem StepS.back {o : Oper} {v : Value} {a : Act} {d : Option Tmp} {x : Value} (h : StepS P ops S o v (a.put d x)) (hs : ∀ cs b, o.op ≠ .select cs b) (h1 : ∀ e, d = some e → e ∉ o.looksAt ops) (h2 : ∀ e, d = some e → o.dst ≠ some e) : StepS P ops S o v a := by
  rcases h with ⟨hw, h⟩ | ⟨hw, h⟩
  · exact .inl ⟨by rw [← wanted_put o a d x h1]; exact hw, fun w hS => wp_frame (h w hS) (execOp_put o hs a d x h1).symm fun u e => put_back h2 e⟩
  · exact .inr ⟨by rw [← wanted_put o a d x h1]; exact hw, h⟩

/-- Each operation that may come up steps, whatever came before it. -/
def wpS (P : Program) (md : Region.Mode) (ops : Array Oper) (Q : Exit → Act → World → Prop) (S : World → Prop) : Nat → Array Bool → Act → Prop
  | 0, listed, a => Region.ready md ops listed = [] ∧ ∀ w, S w → Q .normal a w
  | fuel + 1, listed, a =>
    (Region.ready md ops listed = [] → ∀ w, S w → Q .normal a w) ∧
    ∀ i ∈ Region.ready md ops listed, ∃ o v, ops[i]? = some o ∧ StepS P ops S o v a ∧ wpS P md ops Q S fuel (listed.setIfInBounds i true) (a.put o.dst v)

theorem StepS.wpOp {i : Nat} {o : Oper} {v : Value} {a : Act} (hi : ops[i]? = some o) (h : StepS P ops S o v a) {K : Act → World → Prop} {w : World} (hS : S w) (hK : ∀ w', S w' → K (a.put o.dst v) w') : wpOp P ops Q i K a w := by
  unfold Go.wpOp
  simp only [hi]
  rcases h with ⟨hw, h⟩ | ⟨hw, rfl⟩
  · simp only [hw, if_true]; exact .inl (wp_use (h w hS) hK)
  · simp only [hw, Bool.false_eq_true, if_false]; exact hK w hS
theorem wpAny_of_S : ∀ (fuel : Nat) (listed : Array Bool) (a : Act), wpS P md ops Q S fuel listed a → ∀ w, S w → wpAny P md ops Q fuel listed a w
  | 0, _, _, h, w, hS => ⟨h.1, h.2 w hS⟩
  | fuel + 1, listed, a, h, w, hS => ⟨fun hr => h.1 hr w hS, fun i hi => by
    obtain ⟨o, v, ho, hst, hrest⟩ := h.2 i hi
    exact hst.wpOp ho hS fun w' hS' => wpAny_of_S fuel _ _ hrest w' hS'⟩

theorem wpS_first {i : Nat} {oi : Oper} {v : Value} (hi : ops[i]? = some oi) (hsel : ∀ (j : Nat) (o : Oper) cs b, ops[j]? = some o → o.op ≠ .select cs b) :
    ∀ (fuel : Nat) (listed : Array Bool) (a : Act),
      (∀ j oj, ops[j]? = some oj → j ≠ i → listed.getD j true = false → (∀ e ∈ oj.after, Region.binds md e = true → e.on ≠ i) → oi.apart ops oj = true) →
      i ∈ Region.ready md ops listed → StepS P ops S oi v a →
      wpS P md ops Q S fuel (listed.setIfInBounds i true) (a.put oi.dst v) → wpS P md ops Q S (fuel + 1) listed a := by
  intro fuel
  induction fuel with
  | zero =>
    intro listed a _ hr hy H
    refine ⟨fun h => (by rw [h] at hr; cases hr), fun j hj => ?_⟩
    by_cases hji : j = i
    · subst hji; exact ⟨oi, v, hi, hy, H⟩
    · have := ready_mono hj hji
      rw [H.1] at this
      cases this
  | succ fuel ih =>
    intro listed a hfree hr hy H
    refine ⟨fun h => (by rw [h] at hr; cases hr), fun j hj => ?_⟩
    by_cases hji : j = i
    · subst hji; exact ⟨oi, v, hi, hy, H⟩
    · obtain ⟨oj, u, hoj, hyj, hrest⟩ := H.2 j (ready_mono hj hji)
      obtain ⟨hjun, oj', hoj', hall⟩ := mem_ready.1 hj
      obtain rfl : oj = oj' := Option.some.inj (hoj.symm.trans hoj')
      have hnot : ∀ e ∈ oj.after, Region.binds md e = true → e.on ≠ i := fun e he hb heq => by
        have h1 := hall e he hb
        have h0 := (mem_ready.1 hr).1
        rw [heq] at h1
        rcases Nat.lt_or_ge i listed.size with h' | h'
        · simp [h'] at h0 h1; rw [h0] at h1; cases h1
        · simp [Array.getElem?_eq_none h'] at h1
      obtain ⟨h1, h2, h3⟩ := Oper.apart_spec (hfree j oj hoj hji hjun hnot)
      have hfree' : ∀ k ok, ops[k]? = some ok → k ≠ i → (listed.setIfInBounds j true).getD k true = false →
          (∀ e ∈ ok.after, Region.binds md e = true → e.on ≠ i) → oi.apart ops ok = true := fun k ok hk hki hun hno => by
        refine hfree k ok hk hki ?_ hno
        by_cases hjk : j = k
        · subst hjk; exact hjun
        · rw [getD_set_ne true hjk] at hun; exact hun
      have h2' : ∀ e, oj.dst = some e → oi.dst ≠ some e := fun e he he' => h2 e he' he
      refine ⟨oj, u, hoj, hyj.back (fun cs b => hsel j oj cs b hoj) h1 h2, ih _ _ hfree' (ready_mono hr (Ne.symm hji)) (hy.there (fun cs b => hsel i oi cs b hi) h3 h2') ?_⟩
      rw [Array.setIfInBounds_comm _ _ hji, ← Act.put_comm a v u h2]
      exact hrest

/-- Operation i comes next: it may come up, and whoever could come before it touches nothing of its slots. -/
theorem wpS_take (i : Nat) {dst : Option Tmp} {op : Op} {type : TypeId} {pos : String} {after : Array Edge} {guard : Option (Nat × Bool)} {v : Value} {fuel : Nat} {listed : Array Bool} {a a' : Act} (hi : ops.toList[i]? = some (Oper.mk dst op type pos after guard))
    (hs : Region.noSelect ops = true) (hf : Region.free md ops listed i = true) (hr : (Region.ready md ops listed).contains i = true)
    (hy : StepS P ops S (Oper.mk dst op type pos after guard) v a) (ha : a.put dst v = a') (h : wpS P md ops Q S fuel (listed.setIfInBounds i true) a') : wpS P md ops Q S (fuel + 1) listed a :=
  wpS_first (by rw [← hi]; simp) (Region.noSelect_spec hs) fuel listed a (Region.free_spec (by rw [← hi]; simp) hf) (by simpa using hr) hy (by rw [show (Oper.mk dst op type pos after guard).dst = dst from rfl, ha]; exact h)
theorem wpS_done {listed : Array Bool} {a : Act} (hr : Region.ready md ops listed = []) (h : ∀ w, S w → Q .normal a w) : ∀ fuel, wpS P md ops Q S fuel listed a
  | 0 => ⟨hr, h⟩
  | _ + 1 => ⟨fun _ => h, by rw [hr]; simp⟩
theorem wpS_end {listed : Array Bool} {a : Act} (hr : (Region.ready md ops listed).isEmpty = true) (h : ∀ w, S w → Q .normal a w) : wpS P md ops Q S 0 listed a := ⟨by simpa using hr, h⟩
/-- THE BEGINNING. -/
theorem wp_region_S (S : World → Prop) {id : Nat} {a : Act} {w : World} (hm : P.follows .mixedOrders = true) (hS : S { w with drawn := w.drawn + 1 })
    (h : wpS P .any ops Q S ops.size (Array.replicate ops.size false) a) : (Code.region id ops true).wp P Q a w :=
  wp_region_any hm (wpAny_of_S _ _ _ h _ hS)
/-- A step that runs; one whose guard says no. -/
theorem stepS_run {o : Oper} {v : Value} {a : Act} (hw : Region.wanted o (yielded ops a.tmps) = true)
    (h : ∀ w, S w → ∀ K : Act → World → Prop, (∀ W, S W → K (a.put o.dst v) W) → o.wp P a w K NoQ) : StepS P ops S o v a :=
  .inl ⟨hw, fun w hS => h w hS _ fun _ hS' => ⟨rfl, hS'⟩⟩
theorem stepS_yield {o : Oper} {v : Value} {a : Act} (hw : Region.wanted o (yielded ops a.tmps) = true) (h : ∀ w, S w → (execOp a.eval o).run P w = .ok (.value v) w) : StepS P ops S o v a :=
  .inl ⟨hw, fun w hS => by unfold Oper.wp; rw [h w hS]; exact ⟨rfl, hS⟩⟩
theorem stepS_call {o : Oper} {v : Value} {a : Act} {f : FuncId} {args : Array Value} (hw : Region.wanted o (yielded ops a.tmps) = true) (h : ∀ w, S w → (execOp a.eval o).run P w = .ok (.enter f args) w)
    (hc : ∀ w, S w → Calls P f args w fun e w' => e = .returned v ∧ S w') : StepS P ops S o v a :=
  .inl ⟨hw, fun w hS => by
    unfold Oper.wp; rw [h w hS]
    refine (hc w hS).mono fun e w' he => ?_
    obtain ⟨rfl, h2⟩ := he
    exact ⟨rfl, h2⟩⟩
theorem stepS_not {o : Oper} {a : Act} (hw : Region.wanted o (yielded ops a.tmps) = false) : StepS P ops S o undef a := .inr ⟨hw, rfl⟩
end
end Go.Proofs.YtoopopjcojphaaaGreatDoor
/-
  FROM A READING TO A LIST: an argument that is a slice of integers. Nothing of the program is named here.
-/
namespace Go.Proofs.YtoopopjcojphaaaGreatDoor
open Go.ChangeShapes Go.WideShapes Go.ChangeAt Go.RowKit
section
variable {H : Type} {enc : TypeId × Value → H} {P : Program} {w : World} {base : Nat} {held : Bool}
theorem ints_of {t e : TypeId} {fuel : Nat} {v : Value} {y : DataW H × List MemPlace} (ht : P.underlying t = some (.slice e)) (he : P.underlying e = some (.int .i64)) (hc : P.cellsOf e = 1)
    (h : DataW.trod enc P w base (fun _ => true) held fuel t [v] = some y) : ∃ (A : Option Addr) (c : Nat) (xs : List Int), v = .slice A xs.length c ∧ IntsAt w w.heap.size A xs ∧ xs.length ≤ c ∧ c ≤ maxLen ∧ In64 xs := by
  rcases open_ints ht he hc h with ⟨hv, _⟩ | ⟨a, len, cap, zs, hv, _, hl, hm, hz, _, hcell, hwf⟩
  · simp only [List.cons.injEq, and_true] at hv
    exact ⟨none, 0, [], hv, IntsAt.nil, Nat.le_refl _, Nat.zero_le _, In64.nil⟩
  · simp only [List.cons.injEq, and_true] at hv
    simp only [if_true] at hz
    have hlen : (zs.take len).length = len := by rw [List.length_take]; omega
    refine ⟨some a, cap, zs.take len, by rw [hlen]; exact hv, fun k x hx => ?_, by omega, hm, fun x hx => ?_⟩
    · have hk : k < len := by
        rw [List.getElem?_take] at hx
        split at hx
        · assumption
        · cases hx
      have hx' : zs[k]? = some x := by rwa [List.getElem?_take, if_pos hk] at hx
      have hc' := hcell k (by omega)
      rw [List.getD_eq_getElem?_getD, hx'] at hc'
      have hlt := World.block_lt_of_cell? w _ hc'
      rw [block_add] at hlt
      exact ⟨a, rfl, hlt, hc'⟩
    · have := bounds_i64 (hwf x (List.mem_of_mem_take hx))
      exact this
end
end Go.Proofs.YtoopopjcojphaaaGreatDoor
/-
  FROM A CHAIN TO A STABLE REGION; SchemeOf: THE WALK.
-/
namespace Go.Proofs.YtoopopjcojphaaaGreatDoor
open Go.ChangeShapes Go.WideShapes Go.ChangeAt Go.RowKit
set_option linter.unusedVariables false
section
variable {P : Program} {ops : Array Oper} {Q : Exit → Act → World → Prop} {md : Region.Mode} {S : World → Prop} {keep : Nat → Bool}
theorem wpK_of_S : ∀ (fuel : Nat) (listed : Array Bool) (a : Act) (w : World), S w → wpS P md ops Q S fuel listed a → wpK P md ops Q S keep fuel listed a w
  | 0, _, _, w, hS, h => ⟨h.1, h.2 w hS⟩
  | fuel + 1, listed, a, w, hS, h => ⟨fun hr => h.1 hr w hS, fun i hi => by
    obtain ⟨o, v, ho, hst, hrest⟩ := h.2 i hi
    exact hst.wpOp ho hS fun w' hS' => ⟨fun _ _ => hS', wpK_of_S fuel _ _ w' hS' hrest⟩⟩
theorem stepS_yields {o : Oper} {v : Value} {a : Act} (h : YieldsIf P ops S o v a) : StepS P ops S o v a := by
  rcases h with ⟨hw, h⟩ | ⟨hw, h⟩
  · exact stepS_yield hw h
  · exact .inr ⟨hw, h⟩
end
theorem one_row {w : World} {k n : Int} {s : ByteArray} {l : List Tt} {A : Option Addr} {c : Nat} (h : Val w (.mk k n s l) (.agg #[.int .i64 k, .int .i64 n, .string s, .slice A l.length c])) :
    Rows TyR 4 (w.alloc (.cells #[.int .i64 k, .int .i64 n, .string s, .slice A l.length c] 25)) (Lt (w.alloc (.cells #[.int .i64 k, .int .i64 n, .string s, .slice A l.length c] 25)).heap.size) (some ⟨w.heap.size, 0, none⟩) [.mk k n s l] := fun i t ht => by
  obtain ⟨hi, he⟩ := List.getElem?_eq_some_iff.1 ht
  have h0 : i = 0 := by simp at hi; exact hi
  subst h0
  simp at he; subst he
  obtain ⟨_, _, hvv, hrd⟩ := h
  simp only [Value.agg.injEq, Array.mk.injEq, List.cons.injEq, Value.slice.injEq, and_true, true_and, Tt.kind, Tt.num, Tt.name, Tt.args] at hvv
  obtain ⟨rfl, rfl⟩ := hvv
  exact ⟨w.heap.size, 0, _, rfl, by show _ < _; simp, range_row (cs := [.int .i64 k, .int .i64 n, .string s, .slice A l.length c]) (heap_alloc_new _ _), TyR.more (S := Lt w.heap.size) (fun b hb => by show b < _; have : b < w.heap.size := hb; simp; omega) (TyR.keep (Same.lt (below_new _ _)) hrd)⟩
theorem calls_S {f : FuncId} {args : Array Value} {v : Value} {wr W : World} (hW : Below wr.heap.size wr W) (h : Calls Tryz.prog f args W fun e w' => e = .returned v ∧ Below W.heap.size W w') : Calls Tryz.prog f args W fun e w' => e = .returned v ∧ Below wr.heap.size wr w' :=
  h.mono fun e w' h => ⟨h.1, hW.trans (h.2.mono hW.size)⟩
theorem ofT_len {t : Tt} {keep : List Int} (h : (pre t).length ≤ 1048576) : (pre (ofT t keep)).length ≤ 1048576 := by
  unfold ofT
  split
  · rename_i hr
    have hf := (right_iff.1 hr).2
    rw [reb_len t hf fun u hu hk x hx => by
      unfold placeF at hx
      split at hx
      · cases hx; simp [vT, pre, preL]
      · cases hx]
    exact h
  · simp [zT, pre, preL]
theorem bulk_count {H : Type} : ∀ (l : List (DataW H)), l.length ≤ Rows.uptoBulkAll l
  | [] => Nat.zero_le _
  | d :: r => by
    have := bulk_one d
    have := bulk_count r
    simp only [List.length_cons, Rows.uptoBulkAll]; omega
/-- A slice of numbers, of bounded bulk. -/
theorem ints_small {H : Type} {enc : TypeId × Value → H} {P : Program} {w : World} {base : Nat} {held : Bool} {t e : TypeId} {fuel : Nat} {v : Value} {y : DataW H × List MemPlace} (ht : P.underlying t = some (.slice e)) (he : P.underlying e = some (.int .i64)) (hc : P.cellsOf e = 1)
    (h : DataW.trod enc P w base (fun _ => true) held fuel t [v] = some y) : ∃ (A : Option Addr) (c : Nat) (xs : List Int), v = .slice A xs.length c ∧ IntsAt w w.heap.size A xs ∧ xs.length ≤ Rows.uptoBulk y.1 := by
  obtain ⟨A, c, xs, hv, hx, _⟩ := ints_of ht he hc h
  refine ⟨A, c, xs, hv, hx, ?_⟩
  rcases open_ints ht he hc h with ⟨h1, _⟩ | ⟨a, len, cap, zs, h1, _, _, _, hz, hy, _⟩
  · simp only [List.cons.injEq, and_true] at h1
    rw [hv] at h1
    simp only [Value.slice.injEq] at h1
    omega
  · simp only [List.cons.injEq, and_true] at h1
    rw [hv] at h1
    simp only [Value.slice.injEq] at h1
    have hb := bulk_count (lits (H := H) .i64 (zs.take len))
    simp only [if_true] at hz
    have hl : (lits (H := H) .i64 (zs.take len)).length = xs.length := by simp [lits, List.length_take]; omega
    rw [hy]
    simp only [Rows.uptoBulk]
    omega
set_option maxRecDepth 100000 in
set_option maxHeartbeats 16000000 in
theorem of_run {w : World} {t : Tt} {x : Value} (h : Val w t x) (hsz : (pre t).length ≤ 1048576) {keep : List Int} {Ak : Option Addr} {ck : Nat} (hkl : keep.length ≤ 1048576) (hK : IntsAt w w.heap.size Ak keep) {v : Int} {u : Tt} {y : Value} (hs : SVal w v u y) (hsz' : (pre u).length ≤ 1048576) (hT : Lx.Tabs w) (hT2 : Nu.Pow10 w) :
    Calls Tryz.prog 3 #[x, .slice Ak keep.length ck, y] w fun e w' => e = .returned (.bool true) ∧ Below w.heap.size w w' := by
  have HX := Lib.hid h
  have HY := Lib.hid hs
  obtain ⟨A, c, rfl, _⟩ := h
  obtain ⟨A', c', rfl, _⟩ := hs
  obtain ⟨k, n, s, l⟩ := t
  obtain ⟨k', n', s', l'⟩ := u
  simp only [Tt.kind, Tt.num, Tt.name, Tt.args] at HX HY ⊢
  obtain ⟨w0, hw0⟩ : ∃ w0, w0 = (w.alloc (.cells #[.int .i64 k, .int .i64 n, .string s, .slice A l.length c] 25)).alloc (.cells #[.int .i64 v, .int .i64 k', .int .i64 n', .string s', .slice A' l'.length c'] 28) := ⟨_, rfl⟩
  have hb0 : Below w.heap.size w w0 := by rw [hw0]; exact (below_new _ _).alloc (by simp) _
  have g0 : w0.heap[w.heap.size]? = some (.cells #[.int .i64 k, .int .i64 n, .string s, .slice A l.length c] 25 (0, 0)) := by rw [hw0]; exact heap_alloc2_old _ _ _
  have g1 : w0.heap[w.heap.size + 1]? = some (.cells #[.int .i64 v, .int .i64 k', .int .i64 n', .string s', .slice A' l'.length c'] 28 (0, 0)) := by rw [hw0]; exact heap_alloc2_new _ _ _
  obtain ⟨w1, hw1⟩ : ∃ w1, w1 = w0.alloc (.cells #[.int .i64 k, .int .i64 n, .string s, .slice A l.length c] 25) := ⟨_, rfl⟩
  have hb1 : Below w0.heap.size w0 w1 := by rw [hw1]; exact below_new _ _
  have hrows : Rows TyR 4 w1 (Lt w1.heap.size) (some ⟨w0.heap.size, 0, none⟩) [.mk k n s l] := by rw [hw1]; exact one_row (HX.out.on hb0)
  have HW0 := Lib.hid hw0
  have HW1 := Lib.hid hw1
  have HB0 := Lib.hid hb0
  have HB1 := Lib.hid hb1
  have HG := Lib.hid (And.intro g0 g1)
  have hf0 := lfew_any (l := [.mk k n s l]) (c := 1) ((HY.out.on hb0).on hb1) (by simp) hrows
  have HF : Hid (Calls Tryz.prog 8 #[.agg #[.int .i64 v, .int .i64 k', .int .i64 n', .string s', .slice A' l'.length c'], .slice (some ⟨w0.heap.size, 0, none⟩) 1 1] w1 fun e w' => SomeB e ∧ Below w1.heap.size w1 w') := Lib.hid hf0
  clear hf0
  have HKN : Hid (∀ W, Below w0.heap.size w0 W → Calls Tryz.prog 9 #[] W fun e w' => e = .returned (.bool true) ∧ Below W.heap.size W w') := Lib.hid fun W hW => knows_any W ((hT.on hb0).on hW) ((hT2.on hb0).on hW)
  have HX0 := Lib.hid (HX.out.on hb0)
  have HY0 := Lib.hid (HY.out.on hb0)
  have HK0 := Lib.hid ((hK.below hb0).more hb0.size)
  have HTT := Lib.hid (And.intro (hT.on hb0) (hT2.on hb0))
  have HKL := Lib.hid hkl
  clear hw0 hw1 hb0 hb1 g0 g1 hrows HX HY hK hT hT2
  go_enter Tryz.func3, Tryz.ntmps3
  go_upto_region 1 with fail
  rw [← HW0.out]
  go_wp2_with (first
    | refine wpList_load_row rfl 28 _ rfl (w.heap.size + 1) rfl 28 _ (0, 0) _ HG.out.2 Tryz.underlying28 rfl (scSize _ _ _ _ _) ?_
    | refine wpList_load_row rfl 25 _ rfl w.heap.size rfl 25 _ (0, 0) _ HG.out.1 Tryz.underlying25 rfl (tySizeA _ _ _ _) ?_)
  rw [← HW1.out]
  refine HF.out.mono ?_
  rintro e w2 ⟨⟨b, rfl⟩, hb2⟩
  have HB2 := Lib.hid (below_then HB1.out hb2)
  clear hb2
  cases b
  case false =>
    have HKC := Lib.hid (HKN.out w2 HB2.out)
    go_wp2_with fail
    refine HKC.out.mono ?_
    rintro e w9 ⟨rfl, hb9⟩
    have HB9 := Lib.hid (below_then HB0.out (below_then HB2.out hb9))
    clear hb9
    go_wp2
    go_ret
    exact ⟨rfl, HB9.out⟩
  by_cases h300 : (300 : Int) < keep.length
  case pos =>
    have HKC := Lib.hid (HKN.out w2 HB2.out)
    go_wp2_with fail
    refine HKC.out.mono ?_
    rintro e w9 ⟨rfl, hb9⟩
    have HB9 := Lib.hid (below_then HB0.out (below_then HB2.out hb9))
    clear hb9
    go_wp2
    go_ret
    exact ⟨rfl, HB9.out⟩
  have HG2 := Lib.hid (And.intro (row_on HG.out.1 HB2.out) (row_on HG.out.2 HB2.out))
  have HOF := Lib.hid (sof_any (HX0.out.on HB2.out) hsz (ck := ck) HKL.out ((HK0.out.below HB2.out).more HB2.out.size))
  go_wp2_with (refine wpList_load_row rfl 25 _ rfl w.heap.size rfl 25 _ (0, 0) _ HG2.out.1 Tryz.underlying25 rfl (tySizeA _ _ _ _) ?_)
  have HRO : Hid (∀ W, Below w0.heap.size w0 W → Calls Tryz.prog 12 #[.agg #[.int .i64 k, .int .i64 n, .string s, .slice A l.length c], .slice Ak keep.length ck] W (SGave W (ofV (.mk k n s l) keep) (ofT (.mk k n s l) keep))) := Lib.hid fun W hW => rof10_any (HX0.out.on hW) hsz HKL.out ((HK0.out.below hW).more hW.size)
  have HLE : Hid ((pre (ofT (.mk k n s l) keep)).length ≤ 1048576) := Lib.hid (ofT_len hsz)
  refine HOF.out.mono ?_
  rintro e w3 ⟨z, rfl, hz, hb3⟩
  obtain ⟨ve, hve⟩ : ∃ ve, ve = ofV (.mk k n s l) keep := ⟨_, rfl⟩
  obtain ⟨Te, hTe⟩ : ∃ Te, Te = ofT (.mk k n s l) keep := ⟨_, rfl⟩
  rw [← hve, ← hTe] at hz
  rw [← hTe] at HLE
  rw [← hve, ← hTe] at HRO
  clear hve hTe
  have HZ := Lib.hid hz
  obtain ⟨Ae, ce, rfl, _⟩ := hz
  obtain ⟨ke, ne, se, le⟩ := Te
  simp only [Tt.kind, Tt.num, Tt.name, Tt.args] at HZ ⊢
  have HB3 := Lib.hid (below_then HB2.out hb3)
  clear hb3 HOF
  go_wp2_with (first | refine wpList_store_row rfl 28 _ _ rfl w3.heap.size _ rfl rfl 28 #[.int .i64 0, .int .i64 0, .int .i64 0, .string ⟨#[]⟩, .slice none 0 0] (heap_alloc_new _ _) (scSize _ _ _ _ _) rfl (one5 _ _ _ _ _ _ _) ?_)
  obtain ⟨wr, hwr⟩ : ∃ wr, wr = (w3.alloc (.cells #[.int .i64 0, .int .i64 0, .int .i64 0, .string ⟨#[]⟩, .slice none 0 0] 28)).setRow w3.heap.size #[.int .i64 ve, .int .i64 ke, .int .i64 ne, .string se, .slice Ae le.length ce] := ⟨_, rfl⟩
  have hbr : Below w3.heap.size w3 wr := by rw [hwr]; exact below_setRow (below_new _ _) (Nat.le_refl _)
  have hrr : wr.heap[w3.heap.size]? = some (.cells #[.int .i64 ve, .int .i64 ke, .int .i64 ne, .string se, .slice Ae le.length ce] 28 (0, 0)) := by rw [hwr]; exact setRow_row (heap_alloc_new _ _)
  rw [← hwr]
  have HBR := Lib.hid (below_then HB3.out hbr)
  have R3 : Hid (∀ W', Below wr.heap.size wr W' → W'.heap[w.heap.size]? = some (.cells (List.toArray [.int .i64 k, .int .i64 n, .string s, .slice A l.length c]) 25 (0, 0))) := Lib.hid fun W' h => row_on (row_on HG.out.1 HBR.out) h
  have R5 : Hid (∀ W', Below wr.heap.size wr W' → W'.heap[w.heap.size + 1]? = some (.cells (List.toArray [.int .i64 v, .int .i64 k', .int .i64 n', .string s', .slice A' l'.length c']) 28 (0, 0))) := Lib.hid fun W' h => row_on (row_on HG.out.2 HBR.out) h
  have R7 : Hid (∀ W', Below wr.heap.size wr W' → W'.heap[w3.heap.size]? = some (.cells (List.toArray [.int .i64 ve, .int .i64 ke, .int .i64 ne, .string se, .slice Ae le.length ce]) 28 (0, 0))) := Lib.hid fun W' h => row_on hrr h
  have HZR := Lib.hid (HZ.out.on hbr)
  have HRO2 : Hid (∀ W', Below wr.heap.size wr W' → Calls Tryz.prog 12 #[.agg #[.int .i64 k, .int .i64 n, .string s, .slice A l.length c], .slice Ak keep.length ck] W' (SGave W' ve (.mk ke ne se le))) := Lib.hid fun W' hW => HRO.out W' (below_then HBR.out hW)
  have HAL : Hid (∀ W' z, Below wr.heap.size wr W' → SVal W' ve (.mk ke ne se le) z → Calls Tryz.prog 11 #[.agg #[.int .i64 ve, .int .i64 ke, .int .i64 ne, .string se, .slice Ae le.length ce], z] W' fun e w' => e = .returned (.bool true) ∧ Below W'.heap.size W' w') := Lib.hid fun W' z hW hz => by
    have := alike_any (HZR.out.on hW) hz
    rw [decide_eq_true rfl, sameT_refl] at this
    exact this
  have A1 : Hid (∀ W', Below wr.heap.size wr W' → Calls Tryz.prog 13 #[.agg #[.int .i64 v, .int .i64 k', .int .i64 n', .string s', .slice A' l'.length c']] W' fun e w' => e = .returned (.bool (rightS v (.mk k' n' s' l'))) ∧ Below wr.heap.size wr w') := Lib.hid fun W' hW => calls_S hW (sright_val (HY0.out.on (below_then HBR.out hW)) hsz')
  have A2 : Hid (∀ W', Below wr.heap.size wr W' → Calls Tryz.prog 14 #[.agg #[.int .i64 v, .int .i64 k', .int .i64 n', .string s', .slice A' l'.length c']] W' fun e w' => e = .returned (.bool (rightS v (.mk k' n' s' l'))) ∧ Below wr.heap.size wr w') := Lib.hid fun W' hW => calls_S hW (rsright_val (HY0.out.on (below_then HBR.out hW)) hsz')
  have A3 : Hid (∀ W', Below wr.heap.size wr W' → Calls Tryz.prog 15 #[.agg #[.int .i64 v, .int .i64 k', .int .i64 n', .string s', .slice A' l'.length c']] W' fun e w' => e = .returned (.string ⟨(showS v (.mk k' n' s' l')).toArray⟩) ∧ Below wr.heap.size wr w') := Lib.hid fun W' hW => calls_S hW (sshow_any (HY0.out.on (below_then HBR.out hW)) hsz' (HTT.out.1.on (below_then HBR.out hW)) (HTT.out.2.on (below_then HBR.out hW)))
  have A4 : Hid (∀ W', Below wr.heap.size wr W' → Calls Tryz.prog 16 #[.agg #[.int .i64 v, .int .i64 k', .int .i64 n', .string s', .slice A' l'.length c']] W' fun e w' => e = .returned (.string ⟨(showS v (.mk k' n' s' l')).toArray⟩) ∧ Below wr.heap.size wr w') := Lib.hid fun W' hW => calls_S hW (rshow10_val (HY0.out.on (below_then HBR.out hW)) hsz')
  have A5 : Hid (∀ W', Below wr.heap.size wr W' → Calls Tryz.prog 15 #[.agg #[.int .i64 ve, .int .i64 ke, .int .i64 ne, .string se, .slice Ae le.length ce]] W' fun e w' => e = .returned (.string ⟨(showS ve (.mk ke ne se le)).toArray⟩) ∧ Below wr.heap.size wr w') := Lib.hid fun W' hW => calls_S hW (sshow_any (HZR.out.on hW) HLE.out (HTT.out.1.on (below_then HBR.out hW)) (HTT.out.2.on (below_then HBR.out hW)))
  have A6 : Hid (∀ W', Below wr.heap.size wr W' → Calls Tryz.prog 16 #[.agg #[.int .i64 ve, .int .i64 ke, .int .i64 ne, .string se, .slice Ae le.length ce]] W' fun e w' => e = .returned (.string ⟨(showS ve (.mk ke ne se le)).toArray⟩) ∧ Below wr.heap.size wr w') := Lib.hid fun W' hW => calls_S hW (rshow10_val (HZR.out.on hW) HLE.out)
  have A7 : Hid (∀ W', Below wr.heap.size wr W' → Calls Tryz.prog 9 #[] W' fun e w' => e = .returned (.bool true) ∧ Below wr.heap.size wr w') := Lib.hid fun W' hW => calls_S hW (HKN.out W' (below_then HBR.out hW))
  have HBF := Lib.hid (below_then HB0.out HBR.out)
  clear hwr hbr hrr HKN HRO HZR HX0 HY0 HK0 HTT HG HG2 HB0 HB1 HB2 HB3 HBR HLE HZ HKL HF HW0 HW1
  obtain ⟨bb, hbb⟩ : ∃ bb, bb = rightS v (.mk k' n' s' l') := ⟨_, rfl⟩
  rw [← hbb] at A1 A2
  clear hbb
  obtain ⟨X1, hX1⟩ : ∃ X1 : ByteArray, X1 = ⟨(showS v (.mk k' n' s' l')).toArray⟩ := ⟨_, rfl⟩
  rw [← hX1] at A3 A4
  clear hX1
  obtain ⟨X2, hX2⟩ : ∃ X2 : ByteArray, X2 = ⟨(showS ve (.mk ke ne se le)).toArray⟩ := ⟨_, rfl⟩
  rw [← hX2] at A5 A6
  clear hX2
  have qb : (bb == bb) = true := by simp
  have qx1 : (X1.toList == X1.toList) = true := by simp
  have qx2 : (X2.toList == X2.toList) = true := by simp
  go_wp2
  refine wp_region_K (fun w' => Below wr.heap.size wr w') (fun j => true) (by kernel_rfl) ?_
  have HS := Lib.hid (below_drew1 (Below.refl wr.heap.size wr))
  refine wpK_take (v := .agg #[.int .i64 ve, .int .i64 ke, .int .i64 ne, .string se, .slice Ae le.length ce]) (a' := ?_) 0 rfl (by kernel_rfl) (by kernel_rfl) (by kernel_rfl) (by kernel_rfl) (by kernel_rfl) (fun _ _ _ h => h) HS.out ?_ ?_ ?_
  rotate_left 1
  · exact yieldsIf_load_mid (by kernel_rfl) 28 (.tmp 7) rfl (w3.heap.size) 0 (by go_simp) _ _ (fun wS hS => range_row (R7.out _ hS)) Tryz.underlying28 rfl (scSize _ _ _ _ _)
  · go_simp; with_reducible rfl
  refine wpK_take (v := .agg #[.int .i64 k, .int .i64 n, .string s, .slice A l.length c]) (a' := ?_) 1 rfl (by kernel_rfl) (by kernel_rfl) (by kernel_rfl) (by kernel_rfl) (by kernel_rfl) (fun _ _ _ h => h) HS.out ?_ ?_ ?_
  rotate_left 1
  · exact yieldsIf_load_mid (by kernel_rfl) 25 (.tmp 3) rfl (w.heap.size) 0 (by go_simp) _ _ (fun wS hS => range_row (R3.out _ hS)) Tryz.underlying25 rfl (tySize _ _ _ _)
  · go_simp; with_reducible rfl
  refine wpK_take0 (v := ?_) (a' := ?_) 2 rfl (by kernel_rfl) (by kernel_rfl) (by kernel_rfl) (by kernel_rfl) (fun _ _ _ h => h) ?_ ?_ ?_
  rotate_left 2
  · refine .inl ⟨by kernel_rfl, ?_⟩; intro wS hS; clear hS; go_simp; with_reducible rfl
  · go_simp; with_reducible rfl
  refine wpK_one 3 rfl (by kernel_rfl) (fun K hK => ?_)
  have HKK := Lib.hid hK
  clear hK
  go_wp2_with fail
  refine (HRO2.out _ HS.out).mono ?_
  rintro e w' ⟨z, rfl, hz, hb⟩
  have HS := Lib.hid (HS.out.trans (hb.mono HS.out.size))
  have HZ2 := Lib.hid hz
  clear hb hz
  go_wp2
  refine HKK.out _ _ (fun _ _ => HS.out) ?_
  refine wpK_one 4 rfl (by kernel_rfl) (fun K hK => ?_)
  have HKK := Lib.hid hK
  clear hK
  go_wp2_with fail
  refine (HAL.out _ _ HS.out HZ2.out).mono ?_
  rintro e w' ⟨rfl, hb⟩
  have HS := Lib.hid (HS.out.trans (hb.mono HS.out.size))
  clear hb
  go_wp2
  refine HKK.out _ _ (fun _ _ => HS.out) ?_
  refine wpK_of_S _ _ _ _ HS.out ?_
  refine wpS_take (v := ?_) (a' := ?_) 5 rfl (by kernel_rfl) (by kernel_rfl) (by kernel_rfl) ?_ ?_ ?_
  rotate_left 2
  · refine stepS_yield (by kernel_rfl) ?_; intro wS hS; clear hS; go_simp; with_reducible rfl
  · go_simp; with_reducible rfl
  refine wpS_take (v := .agg #[.int .i64 v, .int .i64 k', .int .i64 n', .string s', .slice A' l'.length c']) (a' := ?_) 6 rfl (by kernel_rfl) (by kernel_rfl) (by kernel_rfl) (stepS_yields ?_) ?_ ?_
  rotate_left 1
  · exact yieldsIf_load_mid (by kernel_rfl) 28 (.tmp 5) rfl (w.heap.size + 1) 0 (by go_simp) _ _ (fun wS hS => range_row (R5.out _ hS)) Tryz.underlying28 rfl (scSize _ _ _ _ _)
  · go_simp; with_reducible rfl
  refine wpS_take (v := ?_) (a' := ?_) 7 rfl (by kernel_rfl) (by kernel_rfl) (by kernel_rfl) ?_ ?_ ?_
  rotate_left 2
  · apply stepS_call (by kernel_rfl)
    · intro wS hS; go_simp; with_reducible exact ⟨rfl, rfl⟩
    intro wS hS
    with_reducible exact A1.out _ hS
  · go_simp; with_reducible rfl
  refine wpS_take (v := .agg #[.int .i64 v, .int .i64 k', .int .i64 n', .string s', .slice A' l'.length c']) (a' := ?_) 8 rfl (by kernel_rfl) (by kernel_rfl) (by kernel_rfl) (stepS_yields ?_) ?_ ?_
  rotate_left 1
  · exact yieldsIf_load_mid (by kernel_rfl) 28 (.tmp 5) rfl (w.heap.size + 1) 0 (by go_simp) _ _ (fun wS hS => range_row (R5.out _ hS)) Tryz.underlying28 rfl (scSize _ _ _ _ _)
  · go_simp; with_reducible rfl
  refine wpS_take (v := ?_) (a' := ?_) 9 rfl (by kernel_rfl) (by kernel_rfl) (by kernel_rfl) ?_ ?_ ?_
  rotate_left 2
  · apply stepS_call (by kernel_rfl)
    · intro wS hS; go_simp; with_reducible exact ⟨rfl, rfl⟩
    intro wS hS
    with_reducible exact A2.out _ hS
  · go_simp; with_reducible rfl
  refine wpS_take (v := ?_) (a' := ?_) 10 rfl (by kernel_rfl) (by kernel_rfl) (by kernel_rfl) ?_ ?_ ?_
  rotate_left 2
  · refine stepS_yield (by kernel_rfl) ?_; intro wS hS; clear hS; go_simp; with_reducible rfl
  · go_simp; with_reducible rfl
  refine wpS_take (v := ?_) (a' := ?_) 11 rfl (by kernel_rfl) (by kernel_rfl) (by kernel_rfl) ?_ ?_ ?_
  rotate_left 2
  · refine stepS_yield (by kernel_rfl) ?_; intro wS hS; clear hS; go_simp; with_reducible rfl
  · go_simp; with_reducible rfl
  refine wpS_take (v := ?_) (a' := ?_) 12 rfl (by kernel_rfl) (by kernel_rfl) (by kernel_rfl) ?_ ?_ ?_
  rotate_left 2
  · refine stepS_yield (by kernel_rfl) ?_; intro wS hS; clear hS; go_simp; with_reducible rfl
  · go_simp; with_reducible rfl
  refine wpS_take (v := .agg #[.int .i64 v, .int .i64 k', .int .i64 n', .string s', .slice A' l'.length c']) (a' := ?_) 13 rfl (by kernel_rfl) (by kernel_rfl) (by kernel_rfl) (stepS_yields ?_) ?_ ?_
  rotate_left 1
  · exact yieldsIf_load_mid (by kernel_rfl) 28 (.tmp 5) rfl (w.heap.size + 1) 0 (by go_simp) _ _ (fun wS hS => range_row (R5.out _ hS)) Tryz.underlying28 rfl (scSize _ _ _ _ _)
  · go_simp; with_reducible rfl
  refine wpS_take (v := ?_) (a' := ?_) 14 rfl (by kernel_rfl) (by kernel_rfl) (by kernel_rfl) ?_ ?_ ?_
  rotate_left 2
  · apply stepS_call (by kernel_rfl)
    · intro wS hS; go_simp; with_reducible exact ⟨rfl, rfl⟩
    intro wS hS
    with_reducible exact A3.out _ hS
  · go_simp; with_reducible rfl
  refine wpS_take (v := .agg #[.int .i64 v, .int .i64 k', .int .i64 n', .string s', .slice A' l'.length c']) (a' := ?_) 15 rfl (by kernel_rfl) (by kernel_rfl) (by kernel_rfl) (stepS_yields ?_) ?_ ?_
  rotate_left 1
  · exact yieldsIf_load_mid (by kernel_rfl) 28 (.tmp 5) rfl (w.heap.size + 1) 0 (by go_simp) _ _ (fun wS hS => range_row (R5.out _ hS)) Tryz.underlying28 rfl (scSize _ _ _ _ _)
  · go_simp; with_reducible rfl
  refine wpS_take (v := ?_) (a' := ?_) 16 rfl (by kernel_rfl) (by kernel_rfl) (by kernel_rfl) ?_ ?_ ?_
  rotate_left 2
  · apply stepS_call (by kernel_rfl)
    · intro wS hS; go_simp; with_reducible exact ⟨rfl, rfl⟩
    intro wS hS
    with_reducible exact A4.out _ hS
  · go_simp; with_reducible rfl
  refine wpS_take (v := ?_) (a' := ?_) 17 rfl (by kernel_rfl) (by kernel_rfl) (by kernel_rfl) ?_ ?_ ?_
  rotate_left 2
  · refine stepS_yield (by kernel_rfl) ?_; intro wS hS; clear hS; go_simp; with_reducible rfl
  · go_simp; with_reducible rfl
  refine wpS_take (v := ?_) (a' := ?_) 18 rfl (by kernel_rfl) (by kernel_rfl) (by kernel_rfl) ?_ ?_ ?_
  rotate_left 2
  · refine stepS_yield (by kernel_rfl) ?_; intro wS hS; clear hS; go_simp; with_reducible rfl
  · go_simp; with_reducible rfl
  refine wpS_take (v := ?_) (a' := ?_) 19 rfl (by kernel_rfl) (by kernel_rfl) (by kernel_rfl) ?_ ?_ ?_
  rotate_left 2
  · refine stepS_yield (by kernel_rfl) ?_; intro wS hS; clear hS; go_simp; with_reducible rfl
  · go_simp; with_reducible rfl
  refine wpS_take (v := .agg #[.int .i64 ve, .int .i64 ke, .int .i64 ne, .string se, .slice Ae le.length ce]) (a' := ?_) 20 rfl (by kernel_rfl) (by kernel_rfl) (by kernel_rfl) (stepS_yields ?_) ?_ ?_
  rotate_left 1
  · exact yieldsIf_load_mid (by kernel_rfl) 28 (.tmp 7) rfl (w3.heap.size) 0 (by go_simp) _ _ (fun wS hS => range_row (R7.out _ hS)) Tryz.underlying28 rfl (scSize _ _ _ _ _)
  · go_simp; with_reducible rfl
  refine wpS_take (v := ?_) (a' := ?_) 21 rfl (by kernel_rfl) (by kernel_rfl) (by kernel_rfl) ?_ ?_ ?_
  rotate_left 2
  · apply stepS_call (by kernel_rfl)
    · intro wS hS; go_simp; with_reducible exact ⟨rfl, rfl⟩
    intro wS hS
    with_reducible exact A5.out _ hS
  · go_simp; with_reducible rfl
  refine wpS_take (v := .agg #[.int .i64 ve, .int .i64 ke, .int .i64 ne, .string se, .slice Ae le.length ce]) (a' := ?_) 22 rfl (by kernel_rfl) (by kernel_rfl) (by kernel_rfl) (stepS_yields ?_) ?_ ?_
  rotate_left 1
  · exact yieldsIf_load_mid (by kernel_rfl) 28 (.tmp 7) rfl (w3.heap.size) 0 (by go_simp) _ _ (fun wS hS => range_row (R7.out _ hS)) Tryz.underlying28 rfl (scSize _ _ _ _ _)
  · go_simp; with_reducible rfl
  refine wpS_take (v := ?_) (a' := ?_) 23 rfl (by kernel_rfl) (by kernel_rfl) (by kernel_rfl) ?_ ?_ ?_
  rotate_left 2
  · apply stepS_call (by kernel_rfl)
    · intro wS hS; go_simp; with_reducible exact ⟨rfl, rfl⟩
    intro wS hS
    with_reducible exact A6.out _ hS
  · go_simp; with_reducible rfl
  refine wpS_take (v := ?_) (a' := ?_) 24 rfl (by kernel_rfl) (by kernel_rfl) (by kernel_rfl) ?_ ?_ ?_
  rotate_left 2
  · refine stepS_yield (by kernel_rfl) ?_; intro wS hS; clear hS; go_simp; with_reducible rfl
  · go_simp; with_reducible rfl
  refine wpS_take (v := ?_) (a' := ?_) 25 rfl (by kernel_rfl) (by kernel_rfl) (by kernel_rfl) ?_ ?_ ?_
  rotate_left 2
  · refine stepS_yield (by kernel_rfl) ?_; intro wS hS; clear hS; go_simp; with_reducible rfl
  · go_simp; with_reducible rfl
  refine wpS_take (v := ?_) (a' := ?_) 26 rfl (by kernel_rfl) (by kernel_rfl) (by kernel_rfl) ?_ ?_ ?_
  rotate_left 2
  · refine stepS_yield (by kernel_rfl) ?_; intro wS hS; clear hS; go_simp; with_reducible rfl
  · go_simp; with_reducible rfl
  refine wpS_take (v := ?_) (a' := ?_) 27 rfl (by kernel_rfl) (by kernel_rfl) (by kernel_rfl) ?_ ?_ ?_
  rotate_left 2
  · apply stepS_call (by kernel_rfl)
    · intro wS hS; go_simp; with_reducible exact ⟨rfl, rfl⟩
    intro wS hS
    with_reducible exact A7.out _ hS
  · go_simp; with_reducible rfl
  refine wpS_take (v := ?_) (a' := ?_) 28 rfl (by kernel_rfl) (by kernel_rfl) (by kernel_rfl) ?_ ?_ ?_
  rotate_left 2
  · refine stepS_yield (by kernel_rfl) ?_; intro wS hS; clear hS; go_simp; with_reducible rfl
  · go_simp; with_reducible rfl
  refine wpS_take (v := ?_) (a' := ?_) 29 rfl (by kernel_rfl) (by kernel_rfl) (by kernel_rfl) ?_ ?_ ?_
  rotate_left 2
  · refine stepS_yield (by kernel_rfl) ?_; intro wS hS; clear hS; go_simp; with_reducible rfl
  · go_simp; with_reducible rfl
  refine wpS_end (by kernel_rfl) ?_
  intro w8 hS8
  have HS8 := Lib.hid hS8
  clear hS8
  go_wp2
  go_ret
  exact ⟨rfl, below_then HBF.out HS8.out⟩
end Go.Proofs.YtoopopjcojphaaaGreatDoor
