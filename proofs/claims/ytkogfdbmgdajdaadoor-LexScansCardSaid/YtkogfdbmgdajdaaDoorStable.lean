/-
  A REGION THAT DRAWS ITS ORDER, WHERE EACH OPERATION GIVES ONE VALUE IN EVERY WORLD THAT MEETS A CONDITION S, AND KEEPS S: loads, calls that answer the same in each such world, makes of memory. Whatever order is drawn, the frame behind it is the same and the world meets S: the region is walked ONCE, in the order of the text, operations whose guard is false are passed over, and what follows is walked once. Nothing of the program is named here.
-/
import Derived.Orders
import Derived.RegionTactic
namespace Go.Proofs.YtkogfdbmgdajdaaDoor
section
variable {P : Program} {ops : Array Oper} {Q : Exit → Act → World → Prop} {md : Region.Mode} {S : World → Prop}
def NoQ : Exit → Act → World → Prop := fun _ _ _ => False
/-- In state a, in every world that meets S, operation o leaves v in its slot, and the world behind it meets S; or its guard says no. -/
def StepS (P : Program) (ops : Array Oper) (S : World → Prop) (o : Oper) (v : Value) (a : Act) : Prop :=
  (Region.wanted o (yielded ops a.tmps) = true ∧ ∀ w, S w → o.wp P a w (fun b w' => b = a.put o.dst v ∧ S w') NoQ) ∨ (Region.wanted o (yielded ops a.tmps) = false ∧ v = undef)

theorem wp_use {o : Oper} {a : Act} {w : World} {v : Value} {K : Act → World → Prop} (h : o.wp P a w (fun b w' => b = a.put o.dst v ∧ S w') NoQ) (hK : ∀ w', S w' → K (a.put o.dst v) w') : o.wp P a w K Q := by
  unfold Oper.wp at *
  generalize (execOp a.eval o).run P w = r at *
  cases r with
  | ok n w' =>
    cases n <;> simp only [Oper.upon] at h ⊢
    case value u => rw [h.1]; exact hK _ h.2
    case skip => rw [h.1]; exact hK _ h.2
    case defer d => rw [h.1]; exact hK _ h.2
    case enter f args =>
      refine Calls.mono h fun e w'' he => ?_
      cases e with
      | returned u => simp only at he ⊢; rw [he.1]; exact hK _ he.2
      | panicked c => exact he.elim
      | outgrown => obtain ⟨_, _, hf⟩ := he; exact hf.elim
    case row row args => exact Rows.mono h fun u w'' he => by rw [he.1]; exact hK _ he.2
  | halt x w' => cases x <;> simp only [Oper.upon] at h ⊢; exact h.elim
theorem wp_frame {o : Oper} {a a' : Act} {w : World} {v : Value} (h : o.wp P a w (fun b w' => b = a.put o.dst v ∧ S w') NoQ) (he : execOp a'.eval o = execOp a.eval o)
    (hp : ∀ u, a.put o.dst u = a.put o.dst v → a'.put o.dst u = a'.put o.dst v) : o.wp P a' w (fun b w' => b = a'.put o.dst v ∧ S w') NoQ := by
  unfold Oper.wp at *
  rw [he]
  generalize (execOp a.eval o).run P w = r at *
  cases r with
  | ok n w' =>
    cases n <;> simp only [Oper.upon] at h ⊢
    case value u => exact ⟨hp _ h.1, h.2⟩
    case skip => exact ⟨hp _ h.1, h.2⟩
    case defer d =>
      have h1 := congrArg Act.defers h.1
      have h2 : ∀ (b : Act) (t : Option Tmp) (x : Value), (b.put t x).defers = b.defers := fun b t x => by cases t <;> rfl
      rw [h2, h2] at h1
      exact absurd (congrArg List.length h1) (by simp)
    case enter f args =>
      refine Calls.mono h fun e w'' hh => ?_
      cases e with
      | returned u => exact ⟨hp _ hh.1, hh.2⟩
      | panicked c => exact hh.elim
      | outgrown => exact hh
    case row row args => exact Rows.mono h fun u w'' hh => ⟨hp _ hh.1, hh.2⟩
  | halt x w' => cases x <;> simp only [Oper.upon] at h ⊢; exact h.elim

theorem put_there {a : Act} {t d : Option Tmp} {x u v : Value} (h : ∀ e, d = some e → t ≠ some e) (e : a.put t u = a.put t v) : (a.put d x).put t u = (a.put d x).put t v := by
  rw [Act.put_comm a x u h, Act.put_comm a x v h, e]
theorem put_back {a : Act} {t d : Option Tmp} {x u v : Value} (h : ∀ e, d = some e → t ≠ some e) (e : (a.put d x).put t u = (a.put d x).put t v) : a.put t u = a.put t v := by
  cases t with
  | none => rfl
  | some t =>
    have h1 : ∀ z, ((a.put d x).put (some t) z).tmps[t]? = if t < a.tmps.size then some z else none := fun z => by
      have hs : (a.put d x).tmps.size = a.tmps.size := by cases d <;> simp [Act.put]
      simp only [Act.put]
      rw [Array.getElem?_setIfInBounds]
      simp only [if_true, Act.put] at hs ⊢
      rw [hs]
    have h2 := congrArg (fun b : Act => b.tmps[t]?) e
    simp only [h1] at h2
    by_cases hlt : t < a.tmps.size
    · rw [if_pos hlt, if_pos hlt] at h2
      rw [Option.some.inj h2]
    · have h3 : ∀ z, a.tmps.setIfInBounds t z = a.tmps := fun z => by
        rw [Array.setIfInBounds, dif_neg hlt]
      simp only [Act.put, h3]

theorem StepS.there {o : Oper} {v : Value} {a : Act} {d : Option Tmp} {x : Value} (h : StepS P ops S o v a) (hs : ∀ cs b, o.op ≠ .select cs b) (h1 : ∀ e, d = some e → e ∉ o.looksAt ops) (h2 : ∀ e, d = some e → o.dst ≠ some e) : StepS P ops S o v (a.put d x) := by
  rcases h with ⟨hw, h⟩ | ⟨hw, h⟩
  · exact .inl ⟨by rw [wanted_put o a d x h1]; exact hw, fun w hS => wp_frame (h w hS) (execOp_put o hs a d x h1) fun u e => put_there h2 e⟩
  · exact .inr ⟨by rw [wanted_put o a d x h1]; exact hw, h⟩
theorem StepS.back {o : Oper} {v : Value} {a : Act} {d : Option Tmp} {x : Value} (h : StepS P ops S o v (a.put d x)) (hs : ∀ cs b, o.op ≠ .select cs b) (h1 : ∀ e, d = some e → e ∉ o.looksAt ops) (h2 : ∀ e, d = some e → o.dst ≠ some e) : StepS P ops S o v a := by
  rcases h with ⟨hw, h⟩ | ⟨hw, h⟩
  · exact .inl ⟨by rw [← wanted_put o a d x h1]; exact hw, fun w hS => wp_frame (h w hS) (execOp_put o hs a d x h1).symm fun u e => put_back h2 e⟩
  · exact .inr ⟨by rw [← wanted_put o a d x h1]; exact hw, h⟩

/-- Each operation that may come up steps, whatever came before it. -/
def wpS (P : Program) (md : Region.Mode) (ops : Array Oper) (Q : Exit → Act → World → Prop) (S : World → Prop) : Nat → Array Bool → Act → Prop
  | 0, listed, a => Region.ready md ops listed = [] ∧ ∀ w, S w → Q .normal a w
  | fuel + 1, listed, a =>
    (Region.ready md ops listed = [] → ∀ w, S w → Q .normal a w) ∧
    ∀ i ∈ Region.ready md ops listed, ∃ o v, ops[i]? = some o ∧ StepS P ops S o v a ∧ wpS P md ops Q S fuel (listed.setIfInBounds i true) (a.put o.dst v)

theorem StepS.wpOp {i : Nat} {o : Oper} {v : Value} {a : Act} (hi : ops[i]? = some o) (h : StepS P ops S o v a) {K : Act → World → Prop} {w : World} (hS : S w) (hK : ∀ w', S w' → K (a.put o.dst v) w') : wpOp P ops Q i K a w := by
  unfold Go.wpOp
  simp only [hi]
  rcases h with ⟨hw, h⟩ | ⟨hw, rfl⟩
  · simp only [hw, if_true]; exact .inl (wp_use (h w hS) hK)
  · simp only [hw, Bool.false_eq_true, if_false]; exact hK w hS
theorem wpAny_of_S : ∀ (fuel : Nat) (listed : Array Bool) (a : Act), wpS P md ops Q S fuel listed a → ∀ w, S w → wpAny P md ops Q fuel listed a w
  | 0, _, _, h, w, hS => ⟨h.1, h.2 w hS⟩
  | fuel + 1, listed, a, h, w, hS => ⟨fun hr => h.1 hr w hS, fun i hi => by
    obtain ⟨o, v, ho, hst, hrest⟩ := h.2 i hi
    exact hst.wpOp ho hS fun w' hS' => wpAny_of_S fuel _ _ hrest w' hS'⟩

theorem wpS_first {i : Nat} {oi : Oper} {v : Value} (hi : ops[i]? = some oi) (hsel : ∀ (j : Nat) (o : Oper) cs b, ops[j]? = some o → o.op ≠ .select cs b) :
    ∀ (fuel : Nat) (listed : Array Bool) (a : Act),
      (∀ j oj, ops[j]? = some oj → j ≠ i → listed.getD j true = false → (∀ e ∈ oj.after, Region.binds md e = true → e.on ≠ i) → oi.apart ops oj = true) →
      i ∈ Region.ready md ops listed → StepS P ops S oi v a →
      wpS P md ops Q S fuel (listed.setIfInBounds i true) (a.put oi.dst v) → wpS P md ops Q S (fuel + 1) listed a := by
  intro fuel
  induction fuel with
  | zero =>
    intro listed a _ hr hy H
    refine ⟨fun h => (by rw [h] at hr; cases hr), fun j hj => ?_⟩
    by_cases hji : j = i
    · subst hji; exact ⟨oi, v, hi, hy, H⟩
    · have := ready_mono hj hji
      rw [H.1] at this
      cases this
  | succ fuel ih =>
    intro listed a hfree hr hy H
    refine ⟨fun h => (by rw [h] at hr; cases hr), fun j hj => ?_⟩
    by_cases hji : j = i
    · subst hji; exact ⟨oi, v, hi, hy, H⟩
    · obtain ⟨oj, u, hoj, hyj, hrest⟩ := H.2 j (ready_mono hj hji)
      obtain ⟨hjun, oj', hoj', hall⟩ := mem_ready.1 hj
      obtain rfl : oj = oj' := Option.some.inj (hoj.symm.trans hoj')
      have hnot : ∀ e ∈ oj.after, Region.binds md e = true → e.on ≠ i := fun e he hb heq => by
        have h1 := hall e he hb
        have h0 := (mem_ready.1 hr).1
        rw [heq] at h1
        rcases Nat.lt_or_ge i listed.size with h' | h'
        · simp [h'] at h0 h1; rw [h0] at h1; cases h1
        · simp [Array.getElem?_eq_none h'] at h1
      obtain ⟨h1, h2, h3⟩ := Oper.apart_spec (hfree j oj hoj hji hjun hnot)
      have hfree' : ∀ k ok, ops[k]? = some ok → k ≠ i → (listed.setIfInBounds j true).getD k true = false →
          (∀ e ∈ ok.after, Region.binds md e = true → e.on ≠ i) → oi.apart ops ok = true := fun k ok hk hki hun hno => by
        refine hfree k ok hk hki ?_ hno
        by_cases hjk : j = k
        · subst hjk; exact hjun
        · rw [getD_set_ne true hjk] at hun; exact hun
      have h2' : ∀ e, oj.dst = some e → oi.dst ≠ some e := fun e he he' => h2 e he' he
      refine ⟨oj, u, hoj, hyj.back (fun cs b => hsel j oj cs b hoj) h1 h2, ih _ _ hfree' (ready_mono hr (Ne.symm hji)) (hy.there (fun cs b => hsel i oi cs b hi) h3 h2') ?_⟩
      rw [Array.setIfInBounds_comm _ _ hji, ← Act.put_comm a v u h2]
      exact hrest

/-- Operation i comes next: it may come up, and whoever could come before it touches nothing of its slots. -/
theorem wpS_take (i : Nat) {dst : Option Tmp} {op : Op} {type : TypeId} {pos : String} {after : Array Edge} {guard : Option (Nat × Bool)} {v : Value} {fuel : Nat} {listed : Array Bool} {a a' : Act} (hi : ops.toList[i]? = some (Oper.mk dst op type pos after guard))
    (hs : Region.noSelect ops = true) (hf : Region.free md ops listed i = true) (hr : (Region.ready md ops listed).contains i = true)
    (hy : StepS P ops S (Oper.mk dst op type pos after guard) v a) (ha : a.put dst v = a') (h : wpS P md ops Q S fuel (listed.setIfInBounds i true) a') : wpS P md ops Q S (fuel + 1) listed a :=
  wpS_first (by rw [← hi]; simp) (Region.noSelect_spec hs) fuel listed a (Region.free_spec (by rw [← hi]; simp) hf) (by simpa using hr) hy (by rw [show (Oper.mk dst op type pos after guard).dst = dst from rfl, ha]; exact h)
theorem wpS_done {listed : Array Bool} {a : Act} (hr : Region.ready md ops listed = []) (h : ∀ w, S w → Q .normal a w) : ∀ fuel, wpS P md ops Q S fuel listed a
  | 0 => ⟨hr, h⟩
  | _ + 1 => ⟨fun _ => h, by rw [hr]; simp⟩
theorem wpS_end {listed : Array Bool} {a : Act} (hr : (Region.ready md ops listed).isEmpty = true) (h : ∀ w, S w → Q .normal a w) : wpS P md ops Q S 0 listed a := ⟨by simpa using hr, h⟩
/-- THE BEGINNING. -/
theorem wp_region_S (S : World → Prop) {id : Nat} {a : Act} {w : World} (hm : P.follows .mixedOrders = true) (hS : S { w with drawn := w.drawn + 1 })
    (h : wpS P .any ops Q S ops.size (Array.replicate ops.size false) a) : (Code.region id ops true).wp P Q a w :=
  wp_region_any hm (wpAny_of_S _ _ _ h _ hS)
/-- A step that runs; one whose guard says no. -/
theorem stepS_run {o : Oper} {v : Value} {a : Act} (hw : Region.wanted o (yielded ops a.tmps) = true)
    (h : ∀ w, S w → ∀ K : Act → World → Prop, (∀ W, S W → K (a.put o.dst v) W) → o.wp P a w K NoQ) : StepS P ops S o v a :=
  .inl ⟨hw, fun w hS => h w hS _ fun _ hS' => ⟨rfl, hS'⟩⟩
theorem stepS_yield {o : Oper} {v : Value} {a : Act} (hw : Region.wanted o (yielded ops a.tmps) = true) (h : ∀ w, S w → (execOp a.eval o).run P w = .ok (.value v) w) : StepS P ops S o v a :=
  .inl ⟨hw, fun w hS => by unfold Oper.wp; rw [h w hS]; exact ⟨rfl, hS⟩⟩
theorem stepS_call {o : Oper} {v : Value} {a : Act} {f : FuncId} {args : Array Value} (hw : Region.wanted o (yielded ops a.tmps) = true) (h : ∀ w, S w → (execOp a.eval o).run P w = .ok (.enter f args) w)
    (hc : ∀ w, S w → Calls P f args w fun e w' => e = .returned v ∧ S w') : StepS P ops S o v a :=
  .inl ⟨hw, fun w hS => by
    unfold Oper.wp; rw [h w hS]
    refine (hc w hS).mono fun e w' he => ?_
    obtain ⟨rfl, h2⟩ := he
    exact ⟨rfl, h2⟩⟩
theorem stepS_not {o : Oper} {a : Act} (hw : Region.wanted o (yielded ops a.tmps) = false) : StepS P ops S o undef a := .inr ⟨hw, rfl⟩
end
end Go.Proofs.YtkogfdbmgdajdaaDoor
