/-
  A REGION THAT DRAWS ITS ORDER, WITHIN AN ITERATOR: the chain of XChain for fenced walks, for fences that let every function in. Nothing of the program is named here.
-/
import Derived.OrdersIn
import Derived.TacticsIn
import Derived.Test.YtgdclchpccbifaaChain
namespace Go.Proofs.Ytgdclchpccbifaa
section
variable {F : Fence} {n : Nat} {P : Program} {ops : Array Oper} {Q : Exit → Act → World → Prop} {md : Region.Mode} {S : World → Prop} {keep : Nat → Bool}
/-- An activation of a function; a round, where no operation defers. -/
theorem sem_fun (i : Nat) (o : Oper) (ρ : Operand → Value) (_ : ops[i]? = some o) : Oper.semAt none ρ o = execOp ρ o := Oper.semAt_none ρ o
def isDefer : Op → Bool
  | .defer _ => true
  | _ => false
def noDefer (ops : Array Oper) : Bool := ops.all fun o => !isDefer o.op
theorem sem_round (l : Nat) (h : noDefer ops = true) (i : Nat) (o : Oper) (ρ : Operand → Value) (hi : ops[i]? = some o) : Oper.semAt (some l) ρ o = execOp ρ o :=
  Oper.semAt_some l ρ o fun c e => by
    have := Array.all_eq_true_iff_forall_mem.1 h o (Array.mem_of_getElem? hi)
    rw [e] at this
    cases this
/-- One operation that is apart from another one that yields v: with v laid or not, it does the same. -/
theorem inOp_put (hro : ∀ (i : Nat) (o : Oper) (ρ : Operand → Value), ops[i]? = some o → Oper.semAt F.round ρ o = execOp ρ o) (hall : ∀ f, F.fn f) {j : Nat} {oi oj : Oper} {v : Value} (hj : ops[j]? = some oj) (hap : oi.apart ops oj = true)
    (hsi : ∀ cs b, oi.op ≠ .select cs b) (hsj : ∀ cs b, oj.op ≠ .select cs b) (hQ : ∀ c a w, Q (.panic c) (a.put oi.dst v) w → Q (.panic c) a w)
    {K : Act → World → Prop} {a : Act} {w : World} (hy : YieldsIf P ops S oi v a) (h : wpOpIn F n P ops Q j K (a.put oi.dst v) w) :
    wpOpIn F n P ops Q j (fun a' w' => YieldsIf P ops S oi v a' ∧ K (a'.put oi.dst v) w') a w := by
  obtain ⟨h1, h2, h3⟩ := Oper.apart_spec hap
  have kp : ∀ (b : Act), YieldsIf P ops S oi v b → ∀ u, YieldsIf P ops S oi v (b.put oj.dst u) := fun b hb u => hb.of_same (execOp_put oi hsi b oj.dst u h3) (wanted_put oi b oj.dst u h3)
  have hsem := fun ρ => hro j oj ρ hj
  unfold wpOpIn at *
  simp only [hj] at *
  rw [wanted_put oj a oi.dst v h1] at h
  by_cases hw : Region.wanted oj (yielded ops a.tmps) = true
  case neg =>
    simp only [hw] at h ⊢
    exact ⟨fun f _ => hall f, kp a hy _, by rw [← Act.put_comm a v undef h2]; exact h.2⟩
  simp only [hw, if_true] at h ⊢
  unfold Oper.wpIn at *
  refine ⟨fun f _ => hall f, ?_⟩
  have h := h.2
  rw [hsem, execOp_put oj hsj a oi.dst v h1] at h
  rw [hsem]
  generalize (execOp a.eval oj).run P w = r at *
  cases r with
  | halt x w' =>
    cases x <;> simp only [Oper.uponIn] at h ⊢
    exact hQ _ _ _ h
  | ok x w' =>
    cases x <;> simp only [Oper.uponIn] at h ⊢
    case value u => exact ⟨kp a hy u, by rw [← Act.put_comm a v u h2]; exact h⟩
    case skip => exact ⟨kp a hy _, by rw [← Act.put_comm a v undef h2]; exact h⟩
    case defer d =>
      refine ⟨kp { a with defers := d :: a.defers } (hy.of_same rfl rfl) undef, ?_⟩
      rw [← Act.put_comm _ v undef h2, ← Act.put_defers]
      exact h
    case row row args => exact ⟨h.1, RowsIn.mono h.2 fun u w'' he => ⟨kp a hy u, by rw [← Act.put_comm a v u h2]; exact he⟩⟩
    case enter f args =>
      refine ⟨h.1, CallsIn.mono h.2 fun e w'' he => ?_⟩
      cases e with
      | returned u => exact ⟨kp a hy u, by rw [← Act.put_comm a v u h2]; exact he⟩
      | panicked c => exact hQ _ _ _ he
      | outgrown => exact he
    case round l f tmps assign body =>
      refine ⟨h.1, RoundIn.mono h.2 fun e w'' he => ?_⟩
      cases e with
      | returned u => exact ⟨kp a hy u, by rw [← Act.put_comm a v u h2]; exact he⟩
      | panicked c => exact hQ _ _ _ he
      | outgrown => exact he
theorem inOp_yields (hro : ∀ (i : Nat) (o : Oper) (ρ : Operand → Value), ops[i]? = some o → Oper.semAt F.round ρ o = execOp ρ o) (hall : ∀ f, F.fn f) {i : Nat} {o : Oper} {v : Value} {a : Act} (hi : ops[i]? = some o) (hy : YieldsIf P ops S o v a) {K : Act → World → Prop} {w : World} (hS : S w) (h : K (a.put o.dst v) w) : wpOpIn F n P ops Q i K a w := by
  unfold wpOpIn
  simp only [hi]
  rcases hy with ⟨hw, hv⟩ | ⟨hw, rfl⟩
  · simp only [hw, if_true, Oper.wpIn, hro _ _ _ hi, hv w hS, Oper.uponIn]
    exact ⟨fun f _ => hall f, h⟩
  · simp only [hw, Bool.false_eq_true, if_false]
    exact ⟨fun f _ => hall f, h⟩
/-- Whatever order is picked from here on; behind each operation of those that keep S, S holds. -/
def wpKIn (F : Fence) (n : Nat) (P : Program) (md : Region.Mode) (ops : Array Oper) (Q : Exit → Act → World → Prop) (S : World → Prop) (keep : Nat → Bool) : Nat → Array Bool → Act → World → Prop
  | 0, listed, a, w => Region.ready md ops listed = [] ∧ Q .normal a w
  | fuel + 1, listed, a, w => (Region.ready md ops listed = [] → Q .normal a w) ∧
    ∀ i ∈ Region.ready md ops listed, wpOpIn F n P ops Q i (fun a' w' => (keep i = true → S w → S w') ∧ wpKIn F n P md ops Q S keep fuel (listed.setIfInBounds i true) a' w') a w
theorem wpAnyIn_of_K : ∀ (fuel : Nat) (listed : Array Bool) (a : Act) (w : World), wpKIn F n P md ops Q S keep fuel listed a w → wpAnyIn F n P md ops Q fuel listed a w
  | 0, _, _, _, h => h
  | fuel + 1, _, _, _, h => ⟨h.1, fun i hi => wpOpIn_mono (fun a' w' h' => wpAnyIn_of_K fuel _ a' w' h'.2) (h.2 i hi)⟩
theorem wpKIn_first (hro : ∀ (i : Nat) (o : Oper) (ρ : Operand → Value), ops[i]? = some o → Oper.semAt F.round ρ o = execOp ρ o) (hall : ∀ f, F.fn f) {S' : World → Prop} {i : Nat} {oi : Oper} {v : Value} (hi : ops[i]? = some oi) (hsel : ∀ (j : Nat) (o : Oper) cs b, ops[j]? = some o → o.op ≠ .select cs b)
    (hQ : ∀ c a w, Q (.panic c) (a.put oi.dst v) w → Q (.panic c) a w)
    (hkeep : (∀ w, S' w) ∨ (S' = S ∧ ∀ j, j < ops.size → j ≠ i → keep j = false → ∃ n, needs md ops n j i = true)) :
    ∀ (fuel : Nat) (listed : Array Bool) (a : Act) (w : World), Closed md ops listed →
      (∀ j oj, ops[j]? = some oj → j ≠ i → listed.getD j true = false → (∀ e ∈ oj.after, Region.binds md e = true → e.on ≠ i) → oi.apart ops oj = true) →
      i ∈ Region.ready md ops listed → YieldsIf P ops S' oi v a → S' w →
      wpKIn F n P md ops Q S keep fuel (listed.setIfInBounds i true) (a.put oi.dst v) w → wpKIn F n P md ops Q S keep (fuel + 1) listed a w := by
  intro fuel
  induction fuel with
  | zero =>
    intro listed a w _ _ hr hy hS H
    refine ⟨fun h => (by rw [h] at hr; cases hr), fun j hj => ?_⟩
    by_cases hji : j = i
    · subst hji; exact inOp_yields hro hall hi hy hS ⟨fun _ h => h, H⟩
    · have := ready_mono hj hji
      rw [H.1] at this
      cases this
  | succ fuel ih =>
    intro listed a w hcl hfree hr hy hS H
    refine ⟨fun h => (by rw [h] at hr; cases hr), fun j hj => ?_⟩
    by_cases hji : j = i
    · subst hji; exact inOp_yields hro hall hi hy hS ⟨fun _ h => h, H⟩
    · have g1 := H.2 j (ready_mono hj hji)
      obtain ⟨hjun, oj, hoj, hbefore⟩ := mem_ready.1 hj
      have hnot : ∀ e ∈ oj.after, Region.binds md e = true → e.on ≠ i := fun e he hb heq => by
        have g2 := hbefore e he hb
        have g0 := (mem_ready.1 hr).1
        rw [heq] at g2
        rw [getD_true_of g2] at g0
        cases g0
      have g3 := inOp_put hro hall hoj (hfree j oj hoj hji hjun hnot) (fun cs b => hsel i oi cs b hi) (fun cs b => hsel j oj cs b hoj) hQ hy g1
      have hfree' : ∀ k ok, ops[k]? = some ok → k ≠ i → (listed.setIfInBounds j true).getD k true = false →
          (∀ e ∈ ok.after, Region.binds md e = true → e.on ≠ i) → oi.apart ops ok = true := fun k ok hk hki hun hno => by
        refine hfree k ok hk hki ?_ hno
        by_cases hjk : j = k
        · subst hjk; exact hjun
        · rw [getD_set_ne true hjk] at hun; exact hun
      have hW : ∀ w', (keep j = true → S w → S w') → S' w' := fun w' hk => by
        rcases hkeep with h | ⟨rfl, h⟩
        · exact h _
        · cases hkj : keep j with
          | true => exact hk hkj hS
          | false =>
            obtain ⟨m, hn⟩ := h j (Array.getElem?_eq_some_iff.1 hoj).1 hji hkj
            exact (needs_not hcl hn hj hr).elim
      refine wpOpIn_mono (fun a' w' g4 => ⟨g4.2.1, ih (listed.setIfInBounds j true) a' w' (hcl.set hj) hfree' (ready_mono hr (Ne.symm hji)) g4.1 (hW w' g4.2.1) ?_⟩) g3
      rw [Array.setIfInBounds_comm _ _ hji]
      exact g4.2.2
/-- Operation i comes next: it yields v in every world that meets S. -/
theorem wpKIn_take (hro : ∀ (i : Nat) (o : Oper) (ρ : Operand → Value), ops[i]? = some o → Oper.semAt F.round ρ o = execOp ρ o) (hall : ∀ f, F.fn f) (i : Nat) {dst : Option Tmp} {op : Op} {type : TypeId} {pos : String} {after : Array Edge} {guard : Option (Nat × Bool)} {v : Value} {fuel : Nat} {listed : Array Bool} {a a' : Act} {w : World} (hi : ops.toList[i]? = some (Oper.mk dst op type pos after guard))
    (hs : Region.noSelect ops = true) (hcl : closedB md ops listed = true) (hwt : waitAll md ops keep i = true) (hf : Region.free md ops listed i = true) (hr : (Region.ready md ops listed).contains i = true)
    (hQ : ∀ (c : List PanicEntry) (a : Act) (w : World), Q (.panic c) (a.put dst v) w → Q (.panic c) a w) (hS : S w)
    (hy : YieldsIf P ops S (Oper.mk dst op type pos after guard) v a) (ha : a.put dst v = a')
    (h : wpKIn F n P md ops Q S keep fuel (listed.setIfInBounds i true) a' w) : wpKIn F n P md ops Q S keep (fuel + 1) listed a w :=
  wpKIn_first hro hall (by rw [← hi]; simp) (Region.noSelect_spec hs) hQ (.inr ⟨rfl, waitAll_spec hwt⟩) fuel listed a w (closed_of hcl) (Region.free_spec (by rw [← hi]; simp) hf) (by simpa using hr) hy hS (by rw [show (Oper.mk dst op type pos after guard).dst = dst from rfl, ha]; exact h)
/-- Operation i comes next: it yields v in every world. -/
theorem wpKIn_take0 (hro : ∀ (i : Nat) (o : Oper) (ρ : Operand → Value), ops[i]? = some o → Oper.semAt F.round ρ o = execOp ρ o) (hall : ∀ f, F.fn f) (i : Nat) {dst : Option Tmp} {op : Op} {type : TypeId} {pos : String} {after : Array Edge} {guard : Option (Nat × Bool)} {v : Value} {fuel : Nat} {listed : Array Bool} {a a' : Act} {w : World} (hi : ops.toList[i]? = some (Oper.mk dst op type pos after guard))
    (hs : Region.noSelect ops = true) (hcl : closedB md ops listed = true) (hf : Region.free md ops listed i = true) (hr : (Region.ready md ops listed).contains i = true)
    (hQ : ∀ (c : List PanicEntry) (a : Act) (w : World), Q (.panic c) (a.put dst v) w → Q (.panic c) a w)
    (hy : YieldsIf P ops (fun _ => True) (Oper.mk dst op type pos after guard) v a) (ha : a.put dst v = a')
    (h : wpKIn F n P md ops Q S keep fuel (listed.setIfInBounds i true) a' w) : wpKIn F n P md ops Q S keep (fuel + 1) listed a w :=
  wpKIn_first hro hall (by rw [← hi]; simp) (Region.noSelect_spec hs) hQ (.inl fun _ => trivial) fuel listed a w (closed_of hcl) (Region.free_spec (by rw [← hi]; simp) hf) (by simpa using hr) hy trivial (by rw [show (Oper.mk dst op type pos after guard).dst = dst from rfl, ha]; exact h)
/-- Only i can come up: it is walked as a plain list of one. -/
theorem wpKIn_one (i : Nat) {o : Oper} {fuel : Nat} {listed : Array Bool} {a : Act} {w : World} (hi : ops.toList[i]? = some o) (hr : Region.ready md ops listed = [i])
    (h : ∀ K : Act → World → Prop, (∀ a' w', (keep i = true → S w → S w') → wpKIn F n P md ops Q S keep fuel (listed.setIfInBounds i true) a' w' → K a' w') → wpListIn F n P ops (Exit.then K Q) [o] a w) : wpKIn F n P md ops Q S keep (fuel + 1) listed a w := by
  refine ⟨fun h0 => (by rw [hr] at h0; cases h0), fun j hj => ?_⟩
  rw [hr, List.mem_singleton] at hj
  subst hj
  have g1 := h _ fun a' w' h1 h2 => And.intro h1 h2
  have ho : ops[j]? = some o := by rw [← hi]; simp
  unfold wpOpIn
  simp only [ho]
  unfold wpListIn at g1
  by_cases hw : Region.wanted o (yielded ops a.tmps) = true
  case neg => simp only [hw] at g1 ⊢; exact g1
  simp only [hw, if_true] at g1 ⊢
  unfold Oper.wpIn at *
  refine ⟨g1.1, ?_⟩
  have g1 := g1.2
  generalize (o.semAt F.round a.eval).run P w = r at *
  cases r with
  | halt x w' => cases x <;> simp only [Oper.uponIn] at g1 ⊢ <;> exact g1
  | ok x w' =>
    cases x <;> simp only [Oper.uponIn, wpListIn] at g1 ⊢
    case value u => exact g1
    case skip => exact g1
    case defer d => exact g1
    case row row args => exact ⟨g1.1, RowsIn.mono g1.2 fun u w'' he => he⟩
    case enter f args =>
      refine ⟨g1.1, CallsIn.mono g1.2 fun e w'' he => ?_⟩
      cases e with
      | returned u => exact he
      | panicked c => exact he
      | outgrown => exact he
    case round l f tmps assign body =>
      refine ⟨g1.1, RoundIn.mono g1.2 fun e w'' he => ?_⟩
      cases e with
      | returned u => exact he
      | panicked c => exact he
      | outgrown => exact he
theorem wpKIn_end {listed : Array Bool} {a : Act} {w : World} (hr : (Region.ready md ops listed).isEmpty = true) (h : Q .normal a w) : ∀ fuel, wpKIn F n P md ops Q S keep fuel listed a w
  | 0 => ⟨by simpa using hr, h⟩
  | _ + 1 => ⟨fun _ => h, by rw [show Region.ready md ops listed = [] by simpa using hr]; simp⟩
/-- THE BEGINNING. -/
theorem wpIn_region_K (S : World → Prop) (keep : Nat → Bool) {id : Nat} {a : Act} {w : World} (hm : P.follows .mixedOrders = true)
    (h : wpKIn F n P .any ops Q S keep ops.size (Array.replicate ops.size false) a { w with drawn := w.drawn + 1 }) : (Code.region id ops true).wpIn F n P Q a w :=
  wpIn_region_any hm (wpAnyIn_of_K _ _ _ _ h)
end
end Go.Proofs.Ytgdclchpccbifaa
