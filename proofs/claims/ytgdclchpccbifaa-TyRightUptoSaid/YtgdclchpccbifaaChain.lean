/-
  A REGION THAT DRAWS ITS ORDER: READS FIRST, THEN A CHAIN. As the library's held regions ('an operation that yields its value in every world that meets S may be taken first'), but S need not hold behind those operations ('keep i = false') that wait for all who lean on S: a store to the cell that the region loads, an append. What is left when the reads are taken is mostly a chain: it is walked as a plain list. Nothing of the program is named here.
-/
import Derived.OrdersHeld
import Derived.RegionTactic
import Derived.Tactics
namespace Go.Proofs.Ytgdclchpccbifaa
section
variable {P : Program} {ops : Array Oper} {Q : Exit → Act → World → Prop} {md : Region.Mode} {S : World → Prop} {keep : Nat → Bool}
/-- Does j wait for i? -/
def needs (md : Region.Mode) (ops : Array Oper) : Nat → Nat → Nat → Bool
  | 0, _, _ => false
  | n + 1, j, i => match ops[j]? with
    | none => false
    | some o => o.after.any fun e => Region.binds md e && (e.on == i || needs md ops n e.on i)
def Closed (md : Region.Mode) (ops : Array Oper) (listed : Array Bool) : Prop := ∀ k o, ops[k]? = some o → listed.getD k false = true → ∀ e ∈ o.after, Region.binds md e = true → listed.getD e.on false = true
def closedB (md : Region.Mode) (ops : Array Oper) (listed : Array Bool) : Bool := (List.range ops.size).all fun k => match ops[k]? with
  | none => true
  | some o => !listed.getD k false || o.after.all fun e => !Region.binds md e || listed.getD e.on false
theorem closed_of {listed : Array Bool} (h : closedB md ops listed = true) : Closed md ops listed := fun k o hk hl e he hb => by
  have hlt : k < ops.size := (Array.getElem?_eq_some_iff.1 hk).1
  have h1 := List.all_eq_true.1 h k (List.mem_range.2 hlt)
  simp only [hk, hl, Bool.not_true, Bool.false_or] at h1
  have h2 := Array.all_eq_true_iff_forall_mem.1 h1 e he
  simpa [hb] using h2
theorem getD_true_of {l : Array Bool} {i : Nat} (h : l.getD i false = true) : l.getD i true = true := by
  rcases Nat.lt_or_ge i l.size with h' | h'
  · simp [h'] at h ⊢; exact h
  · simp [Array.getElem?_eq_none h'] at h
theorem Closed.set {listed : Array Bool} (h : Closed md ops listed) {j : Nat} (hj : j ∈ Region.ready md ops listed) : Closed md ops (listed.setIfInBounds j true) := fun k o hk hl e he hb => by
  obtain ⟨_, oj, hoj, hall⟩ := mem_ready.1 hj
  refine getD_set_true ?_
  by_cases hkj : j = k
  · subst hkj
    obtain rfl : oj = o := Option.some.inj (hoj.symm.trans hk)
    exact hall e he hb
  · rw [getD_set_ne false hkj] at hl
    exact h k o hk hl e he hb
theorem needs_listed {listed : Array Bool} (h : Closed md ops listed) {i : Nat} : ∀ n j, needs md ops n j i = true → listed.getD j false = true → listed.getD i false = true
  | 0, _, hn, _ => by cases hn
  | n + 1, j, hn, hl => by
    unfold needs at hn
    cases ho : ops[j]? with
    | none => simp [ho] at hn
    | some o =>
      simp only [ho, Array.any_eq_true', Bool.and_eq_true, Bool.or_eq_true, beq_iff_eq] at hn
      obtain ⟨e, he, hb, hor⟩ := hn
      have h1 := h j o ho hl e he hb
      rcases hor with rfl | hor
      · exact h1
      · exact needs_listed h n e.on hor h1
theorem needs_not {listed : Array Bool} (h : Closed md ops listed) {i j n : Nat} (hn : needs md ops n j i = true) (hj : j ∈ Region.ready md ops listed) (hi : i ∈ Region.ready md ops listed) : False := by
  have h0 := (mem_ready.1 hi).1
  obtain ⟨_, o, ho, hall⟩ := mem_ready.1 hj
  have key : listed.getD i false = true := by
    cases n with
    | zero => cases hn
    | succ n =>
      unfold needs at hn
      simp only [ho, Array.any_eq_true', Bool.and_eq_true, Bool.or_eq_true, beq_iff_eq] at hn
      obtain ⟨e, he, hb, hor⟩ := hn
      have h1 := hall e he hb
      rcases hor with rfl | hor
      · exact h1
      · exact needs_listed h n e.on hor h1
  rw [getD_true_of key] at h0
  cases h0

/-- Whatever order is picked from here on; behind each operation of those that keep S, S holds. -/
def wpK (P : Program) (md : Region.Mode) (ops : Array Oper) (Q : Exit → Act → World → Prop) (S : World → Prop) (keep : Nat → Bool) : Nat → Array Bool → Act → World → Prop
  | 0, listed, a, w => Region.ready md ops listed = [] ∧ Q .normal a w
  | fuel + 1, listed, a, w => (Region.ready md ops listed = [] → Q .normal a w) ∧
    ∀ i ∈ Region.ready md ops listed, wpOp P ops Q i (fun a' w' => (keep i = true → S w → S w') ∧ wpK P md ops Q S keep fuel (listed.setIfInBounds i true) a' w') a w
theorem wpAny_of_K : ∀ (fuel : Nat) (listed : Array Bool) (a : Act) (w : World), wpK P md ops Q S keep fuel listed a w → wpAny P md ops Q fuel listed a w
  | 0, _, _, _, h => h
  | fuel + 1, _, _, _, h => ⟨h.1, fun i hi => wpOp_mono (fun a' w' h' => wpAny_of_K fuel _ a' w' h'.2) (h.2 i hi)⟩

theorem wpK_first {S' : World → Prop} {i : Nat} {oi : Oper} {v : Value} (hi : ops[i]? = some oi) (hsel : ∀ (j : Nat) (o : Oper) cs b, ops[j]? = some o → o.op ≠ .select cs b)
    (hQ : ∀ c a w, Q (.panic c) (a.put oi.dst v) w → Q (.panic c) a w)
    (hkeep : (∀ w, S' w) ∨ (S' = S ∧ ∀ j, j < ops.size → j ≠ i → keep j = false → ∃ n, needs md ops n j i = true)) :
    ∀ (fuel : Nat) (listed : Array Bool) (a : Act) (w : World), Closed md ops listed →
      (∀ j oj, ops[j]? = some oj → j ≠ i → listed.getD j true = false → (∀ e ∈ oj.after, Region.binds md e = true → e.on ≠ i) → oi.apart ops oj = true) →
      i ∈ Region.ready md ops listed → YieldsIf P ops S' oi v a → S' w →
      wpK P md ops Q S keep fuel (listed.setIfInBounds i true) (a.put oi.dst v) w → wpK P md ops Q S keep (fuel + 1) listed a w := by
  intro fuel
  induction fuel with
  | zero =>
    intro listed a w _ _ hr hy hS H
    refine ⟨fun h => (by rw [h] at hr; cases hr), fun j hj => ?_⟩
    by_cases hji : j = i
    · subst hji; exact hy.wpOp hi hS ⟨fun _ h => h, H⟩
    · have := ready_mono hj hji
      rw [H.1] at this
      cases this
  | succ fuel ih =>
    intro listed a w hcl hfree hr hy hS H
    refine ⟨fun h => (by rw [h] at hr; cases hr), fun j hj => ?_⟩
    by_cases hji : j = i
    · subst hji; exact hy.wpOp hi hS ⟨fun _ h => h, H⟩
    · have h1 := H.2 j (ready_mono hj hji)
      obtain ⟨hjun, oj, hoj, hall⟩ := mem_ready.1 hj
      have hnot : ∀ e ∈ oj.after, Region.binds md e = true → e.on ≠ i := fun e he hb heq => by
        have h1 := hall e he hb
        have h0 := (mem_ready.1 hr).1
        rw [heq] at h1
        rw [getD_true_of h1] at h0
        cases h0
      have h2 := wpOp_putIf hoj (hfree j oj hoj hji hjun hnot) (fun cs b => hsel i oi cs b hi) (fun cs b => hsel j oj cs b hoj) hQ hy h1
      have hfree' : ∀ k ok, ops[k]? = some ok → k ≠ i → (listed.setIfInBounds j true).getD k true = false →
          (∀ e ∈ ok.after, Region.binds md e = true → e.on ≠ i) → oi.apart ops ok = true := fun k ok hk hki hun hno => by
        refine hfree k ok hk hki ?_ hno
        by_cases hjk : j = k
        · subst hjk; exact hjun
        · rw [getD_set_ne true hjk] at hun; exact hun
      have hW : ∀ w', (keep j = true → S w → S w') → S' w' := fun w' hk => by
        rcases hkeep with h | ⟨rfl, h⟩
        · exact h _
        · cases hkj : keep j with
          | true => exact hk hkj hS
          | false =>
            obtain ⟨n, hn⟩ := h j (Array.getElem?_eq_some_iff.1 hoj).1 hji hkj
            exact (needs_not hcl hn hj hr).elim
      refine wpOp_mono (fun a' w' h3 => ⟨h3.2.1, ih (listed.setIfInBounds j true) a' w' (hcl.set hj) hfree' (ready_mono hr (Ne.symm hji)) h3.1 (hW w' h3.2.1) ?_⟩) h2
      rw [Array.setIfInBounds_comm _ _ hji]
      exact h3.2.2
def waitAll (md : Region.Mode) (ops : Array Oper) (keep : Nat → Bool) (i : Nat) : Bool := (List.range ops.size).all fun j => j == i || keep j || needs md ops ops.size j i
theorem waitAll_spec {i : Nat} (h : waitAll md ops keep i = true) : ∀ j, j < ops.size → j ≠ i → keep j = false → ∃ n, needs md ops n j i = true := fun j hj hji hk => by
  have := List.all_eq_true.1 h j (List.mem_range.2 hj)
  simp only [Bool.or_eq_true, beq_iff_eq, hk, Bool.false_eq_true, or_false] at this
  exact ⟨_, this.resolve_left hji⟩
/-- Operation i comes next: it yields v in every world that meets S. -/
theorem wpK_take (i : Nat) {dst : Option Tmp} {op : Op} {type : TypeId} {pos : String} {after : Array Edge} {guard : Option (Nat × Bool)} {v : Value} {fuel : Nat} {listed : Array Bool} {a a' : Act} {w : World} (hi : ops.toList[i]? = some (Oper.mk dst op type pos after guard))
    (hs : Region.noSelect ops = true) (hcl : closedB md ops listed = true) (hwt : waitAll md ops keep i = true) (hf : Region.free md ops listed i = true) (hr : (Region.ready md ops listed).contains i = true)
    (hQ : ∀ (c : List PanicEntry) (a : Act) (w : World), Q (.panic c) (a.put dst v) w → Q (.panic c) a w) (hS : S w)
    (hy : YieldsIf P ops S (Oper.mk dst op type pos after guard) v a) (ha : a.put dst v = a')
    (h : wpK P md ops Q S keep fuel (listed.setIfInBounds i true) a' w) : wpK P md ops Q S keep (fuel + 1) listed a w :=
  wpK_first (by rw [← hi]; simp) (Region.noSelect_spec hs) hQ (.inr ⟨rfl, waitAll_spec hwt⟩) fuel listed a w (closed_of hcl) (Region.free_spec (by rw [← hi]; simp) hf) (by simpa using hr) hy hS (by rw [show (Oper.mk dst op type pos after guard).dst = dst from rfl, ha]; exact h)
/-- Operation i comes next: it yields v in every world. -/
theorem wpK_take0 (i : Nat) {dst : Option Tmp} {op : Op} {type : TypeId} {pos : String} {after : Array Edge} {guard : Option (Nat × Bool)} {v : Value} {fuel : Nat} {listed : Array Bool} {a a' : Act} {w : World} (hi : ops.toList[i]? = some (Oper.mk dst op type pos after guard))
    (hs : Region.noSelect ops = true) (hcl : closedB md ops listed = true) (hf : Region.free md ops listed i = true) (hr : (Region.ready md ops listed).contains i = true)
    (hQ : ∀ (c : List PanicEntry) (a : Act) (w : World), Q (.panic c) (a.put dst v) w → Q (.panic c) a w)
    (hy : YieldsIf P ops (fun _ => True) (Oper.mk dst op type pos after guard) v a) (ha : a.put dst v = a')
    (h : wpK P md ops Q S keep fuel (listed.setIfInBounds i true) a' w) : wpK P md ops Q S keep (fuel + 1) listed a w :=
  wpK_first (by rw [← hi]; simp) (Region.noSelect_spec hs) hQ (.inl fun _ => trivial) fuel listed a w (closed_of hcl) (Region.free_spec (by rw [← hi]; simp) hf) (by simpa using hr) hy trivial (by rw [show (Oper.mk dst op type pos after guard).dst = dst from rfl, ha]; exact h)
/-- Only i can come up: it is walked as a plain list of one. -/
theorem wpK_one (i : Nat) {o : Oper} {fuel : Nat} {listed : Array Bool} {a : Act} {w : World} (hi : ops.toList[i]? = some o) (hr : Region.ready md ops listed = [i])
    (h : ∀ K : Act → World → Prop, (∀ a' w', (keep i = true → S w → S w') → wpK P md ops Q S keep fuel (listed.setIfInBounds i true) a' w' → K a' w') → wpList P ops (Exit.then K Q) [o] a w) : wpK P md ops Q S keep (fuel + 1) listed a w := by
  refine ⟨fun h0 => (by rw [hr] at h0; cases h0), fun j hj => ?_⟩
  rw [hr, List.mem_singleton] at hj
  subst hj
  have h1 := h _ fun a' w' h1 h2 => And.intro h1 h2
  have ho : ops[j]? = some o := by rw [← hi]; simp
  unfold wpOp
  simp only [ho]
  unfold wpList at h1
  have hpan : ∀ (K : Act → World → Prop) (e : Exit), e ≠ .normal → (Exit.then K Q) e = Q e := fun K e he => by cases e <;> first | exact absurd rfl he | rfl
  by_cases hw : Region.wanted o (yielded ops a.tmps) = true
  · simp only [hw, if_true] at h1 ⊢
    rcases h1 with h1 | h1
    · refine .inl ?_
      unfold Oper.wp at *
      generalize (execOp a.eval o).run P w = r at *
      cases r with
      | ok n w' =>
        cases n <;> simp only [Oper.upon, wpList] at h1 ⊢
        case value u => exact h1
        case skip => exact h1
        case defer d => exact h1
        case enter f args =>
          refine Calls.mono h1 fun e w'' he => ?_
          cases e with
          | returned u => exact he
          | panicked c => exact he
          | outgrown => exact he
        case row row args => exact Rows.mono h1 fun u w'' he => he
      | halt x w' => cases x <;> simp only [Oper.upon] at h1 ⊢ <;> exact h1
    · exact .inr ⟨h1.1, h1.2⟩
  · simp only [hw] at h1 ⊢
    exact h1
theorem wpOp_of_list {j : Nat} {o : Oper} {a : Act} {w : World} {K : Act → World → Prop} (ho : ops[j]? = some o) (h1 : wpList P ops (Exit.then K Q) [o] a w) : wpOp P ops Q j K a w := by
  unfold wpOp
  simp only [ho]
  unfold wpList at h1
  by_cases hw : Region.wanted o (yielded ops a.tmps) = true
  · simp only [hw, if_true] at h1 ⊢
    rcases h1 with h1 | h1
    · refine .inl ?_
      unfold Oper.wp at *
      generalize (execOp a.eval o).run P w = r at *
      cases r with
      | ok n w' =>
        cases n <;> simp only [Oper.upon, wpList] at h1 ⊢
        case value u => exact h1
        case skip => exact h1
        case defer d => exact h1
        case enter f args =>
          refine Calls.mono h1 fun e w'' he => ?_
          cases e with
          | returned u => exact he
          | panicked c => exact he
          | outgrown => exact he
        case row row args => exact Rows.mono h1 fun u w'' he => he
      | halt x w' => cases x <;> simp only [Oper.upon] at h1 ⊢ <;> exact h1
    · exact .inr ⟨h1.1, h1.2⟩
  · simp only [hw] at h1 ⊢
    exact h1
/-- One of two comes up. -/
theorem wpK_two (i j : Nat) {oi oj : Oper} {fuel : Nat} {listed : Array Bool} {a : Act} {w : World} (hi : ops.toList[i]? = some oi) (hj : ops.toList[j]? = some oj) (hr : Region.ready md ops listed = [i, j])
    (h1 : ∀ K : Act → World → Prop, (∀ a' w', (keep i = true → S w → S w') → wpK P md ops Q S keep fuel (listed.setIfInBounds i true) a' w' → K a' w') → wpList P ops (Exit.then K Q) [oi] a w)
    (h2 : ∀ K : Act → World → Prop, (∀ a' w', (keep j = true → S w → S w') → wpK P md ops Q S keep fuel (listed.setIfInBounds j true) a' w' → K a' w') → wpList P ops (Exit.then K Q) [oj] a w) : wpK P md ops Q S keep (fuel + 1) listed a w := by
  refine ⟨fun h0 => (by rw [hr] at h0; cases h0), fun k hk => ?_⟩
  rw [hr] at hk
  rcases List.mem_cons.1 hk with rfl | hk
  · exact wpOp_of_list (by rw [← hi]; simp) (h1 _ fun a' w' h1 h2 => And.intro h1 h2)
  · rw [List.mem_singleton.1 hk]
    exact wpOp_of_list (by rw [← hj]; simp) (h2 _ fun a' w' h1 h2 => And.intro h1 h2)
theorem wpK_end {listed : Array Bool} {a : Act} {w : World} (hr : (Region.ready md ops listed).isEmpty = true) (h : Q .normal a w) : ∀ fuel, wpK P md ops Q S keep fuel listed a w
  | 0 => ⟨by simpa using hr, h⟩
  | _ + 1 => ⟨fun _ => h, by rw [show Region.ready md ops listed = [] by simpa using hr]; simp⟩
/-- THE BEGINNING. -/
theorem wp_region_K (S : World → Prop) (keep : Nat → Bool) {id : Nat} {a : Act} {w : World} (hm : P.follows .mixedOrders = true)
    (h : wpK P .any ops Q S keep ops.size (Array.replicate ops.size false) a { w with drawn := w.drawn + 1 }) : (Code.region id ops true).wp P Q a w :=
  wp_region_any hm (wpAny_of_K _ _ _ _ h)
end
end Go.Proofs.Ytgdclchpccbifaa
