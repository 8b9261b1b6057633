import Derived.OrdersIn
import Derived.TacticsIn
import Derived.Test.YtoopopjcojphaaaGreatDoorQA
import Derived.Test.YtoopopjcojphaaaGreatDoorQB
import Derived.RangeFuncNested
import Derived.RangeFuncBound
import Derived.RangeFuncCalls
import Derived.RangeFuncLeaves
import Derived.RangeFuncBox
import Derived.Shelf.Abstract
import Derived.Shelf.RegionOpen
import Derived.OwnWalkIn
import Derived.TacticsInMore
import Derived.LoopNIn
import Derived.LoopIn
import Derived.BigFrameIn
import Derived.Test.YtoopopjcojphaaaGreatDoorQD
/-
  A REGION THAT DRAWS ITS ORDER, WITHIN AN ITERATOR: the chain of XChain for fenced walks, for fences that let every function in. Nothing of the program is named here.
-/
namespace Go.Proofs.YtoopopjcojphaaaGreatDoor
section
variable {F : Fence} {n : Nat} {P : Program} {ops : Array Oper} {Q : Exit → Act → World → Prop} {md : Region.Mode} {S : World → Prop} {keep : Nat → Bool}
/-- An activation of a function; a round, where no operation defers. -/
theorem sem_fun (i : Nat) (o : Oper) (ρ : Operand → Value) (_ : ops[i]? = some o) : Oper.semAt none ρ o = execOp ρ o := Oper.semAt_none ρ o
def isDefer : Op → Bool
  | .defer _ => true
  | _ => false
def noDefer (ops : Array Oper) : Bool := ops.all fun o => !isDefer o.op
theorem sem_round (l : Nat) (h : noDefer ops = true) (i : Nat) (o : Oper) (ρ : Operand → Value) (hi : ops[i]? = some o) : Oper.semAt (some l) ρ o = execOp ρ o :=
  Oper.semAt_some l ρ o fun c e => by
    have := Array.all_eq_true_iff_forall_mem.1 h o (Array.mem_of_getElem? hi)
    rw [e] at this
    cases this
/-- One operation that is apart from another one that yields v: with v laid or not, it does the same. -/
theorem inOp_put (hro : ∀ (i : Nat) (o : Oper) (ρ : Operand → Value), ops[i]? = some o → Oper.semAt F.round ρ o = execOp ρ o) (hall : ∀ f, F.fn f) {j : Nat} {oi oj : Oper} {v : Value} (hj : ops[j]? = some oj) (hap : oi.apart ops oj = true)
    (hsi : ∀ cs b, oi.op ≠ .select cs b) (hsj : ∀ cs b, oj.op ≠ .select cs b) (hQ : ∀ c a w, Q (.panic c) (a.put oi.dst v) w → Q (.panic c) a w)
    {K : Act → World → Prop} {a : Act} {w : World} (hy : YieldsIf P ops S oi v a) (h : wpOpIn F n P ops Q j K (a.put oi.dst v) w) :
    wpOpIn F n P ops Q j (fun a' w' => YieldsIf P ops S oi v a' ∧ K (a'.put oi.dst v) w') a w := by
  obtain ⟨h1, h2, h3⟩ := Oper.apart_spec hap
  have kp : ∀ (b : Act), YieldsIf P ops S oi v b → ∀ u, YieldsIf P ops S oi v (b.put oj.dst u) := fun b hb u => hb.of_same (execOp_put oi hsi b oj.dst u h3) (wanted_put oi b oj.dst u h3)
  have hsem := fun ρ => hro j oj ρ hj
  unfold wpOpIn at *
  simp only [hj] at *
  rw [wanted_put oj a oi.dst v h1] at h
  by_cases hw : Region.wanted oj (yielded ops a.tmps) = true
  case neg =>
    simp only [hw] at h ⊢
    exact ⟨fun f _ => hall f, kp a hy _, by rw [← Act.put_comm a v undef h2]; exact h.2⟩
  simp only [hw, if_true] at h ⊢
  unfold Oper.wpIn at *
  refine ⟨fun f _ => hall f, ?_⟩
  have h := h.2
  rw [hsem, execOp_put oj hsj a oi.dst v h1] at h
  rw [hsem]
  generalize (execOp a.eval oj).run P w = r at *
  cases r with
  | halt x w' =>
    cases x <;> simp only [Oper.uponIn] at h ⊢
    exact hQ _ _ _ h
  | ok x w' =>
    cases x <;> simp only [Oper.uponIn] at h ⊢
    case value u => exact ⟨kp a hy u, by rw [← Act.put_comm a v u h2]; exact h⟩
    case skip => exact ⟨kp a hy _, by rw [← Act.put_comm a v undef h2]; exact h⟩
    case defer d =>
      refine ⟨kp { a with defers := d :: a.defers } (hy.of_same rfl rfl) undef, ?_⟩
      rw [← Act.put_comm _ v undef h2, ← Act.put_defers]
      exact h
    case row row args => exact ⟨h.1, RowsIn.mono h.2 fun u w'' he => ⟨kp a hy u, by rw [← Act.put_comm a v u h2]; exact he⟩⟩
    case enter f args =>
      refine ⟨h.1, CallsIn.mono h.2 fun e w'' he => ?_⟩
      cases e with
      | returned u => exact ⟨kp a hy u, by rw [← Act.put_comm a v u h2]; exact he⟩
      | panicked c => exact hQ _ _ _ he
      | outgrown => exact he
    case round l f tmps assign body =>
      refine ⟨h.1, RoundIn.mono h.2 fun e w'' he => ?_⟩
      cases e with
      | returned u => exact ⟨kp a hy u, by rw [← Act.put_comm a v u h2]; exact he⟩
      | panicked c => exact hQ _ _ _ he
      | outgrown => exact he
theorem inOp_yields (hro : ∀ (i : Nat) (o : Oper) (ρ : Operand → Value), ops[i]? = some o → Oper.semAt F.round ρ o = execOp ρ o) (hall : ∀ f, F.fn f) {i : Nat} {o : Oper} {v : Value} {a : Act} (hi : ops[i]? = some o) (hy : YieldsIf P ops S o v a) {K : Act → World → Prop} {w : World} (hS : S w) (h : K (a.put o.dst v) w) : wpOpIn F n P ops Q i K a w := by
  unfold wpOpIn
  simp only [hi]
  rcases hy with ⟨hw, hv⟩ | ⟨hw, rfl⟩
  · simp only [hw, if_true, Oper.wpIn, hro _ _ _ hi, hv w hS, Oper.uponIn]
    exact ⟨fun f _ => hall f, h⟩
  · simp only [hw, Bool.false_eq_true, if_false]
    exact ⟨fun f _ => hall f, h⟩
/-- Whatever order is picked from here on; behind each operation of those that keep S, S holds. -/
def wpKIn (F : Fence) (n : Nat) (P : Program) (md : Region.Mode) (ops : Array Oper) (Q : Exit → Act → World → Prop) (S : World → Prop) (keep : Nat → Bool) : Nat → Array Bool → Act → World → Prop
  | 0, listed, a, w => Region.ready md ops listed = [] ∧ Q .normal a w
  | fuel + 1, listed, a, w => (Region.ready md ops listed = [] → Q .normal a w) ∧
    ∀ i ∈ Region.ready md ops listed, wpOpIn F n P ops Q i (fun a' w' => (keep i = true → S w → S w') ∧ wpKIn F n P md ops Q S keep fuel (listed.setIfInBounds i true) a' w') a w
theorem wpAnyIn_of_K : ∀ (fuel : Nat) (listed : Array Bool) (a : Act) (w : World), wpKIn F n P md ops Q S keep fuel listed a w → wpAnyIn F n P md ops Q fuel listed a w
  | 0, _, _, _, h => h
  | fuel + 1, _, _, _, h => ⟨h.1, fun i hi => wpOpIn_mono (fun a' w' h' => wpAnyIn_of_K fuel _ a' w' h'.2) (h.2 i hi)⟩
theorem wpKIn_first (hro : ∀ (i : Nat) (o : Oper) (ρ : Operand → Value), ops[i]? = some o → Oper.semAt F.round ρ o = execOp ρ o) (hall : ∀ f, F.fn f) {S' : World → Prop} {i : Nat} {oi : Oper} {v : Value} (hi : ops[i]? = some oi) (hsel : ∀ (j : Nat) (o : Oper) cs b, ops[j]? = some o → o.op ≠ .select cs b)
    (hQ : ∀ c a w, Q (.panic c) (a.put oi.dst v) w → Q (.panic c) a w)
    (hkeep : (∀ w, S' w) ∨ (S' = S ∧ ∀ j, j < ops.size → j ≠ i → keep j = false → ∃ n, needs md ops n j i = true)) :
    ∀ (fuel : Nat) (listed : Array Bool) (a : Act) (w : World), Closed md ops listed →
      (∀ j oj, ops[j]? = some oj → j ≠ i → listed.getD j true = false → (∀ e ∈ oj.after, Region.binds md e = true → e.on ≠ i) → oi.apart ops oj = true) →
      i ∈ Region.ready md ops listed → YieldsIf P ops S' oi v a → S' w →
      wpKIn F n P md ops Q S keep fuel (listed.setIfInBounds i true) (a.put oi.dst v) w → wpKIn F n P md ops Q S keep (fuel + 1) listed a w := by
  intro fuel
  induction fuel with
  | zero =>
    intro listed a w _ _ hr hy hS H
    refine ⟨fun h => (by rw [h] at hr; cases hr), fun j hj => ?_⟩
    by_cases hji : j = i
    · subst hji; exact inOp_yields hro hall hi hy hS ⟨fun _ h => h, H⟩
    · have := ready_mono hj hji
      rw [H.1] at this
      cases this
  | succ fuel ih =>
    intro listed a w hcl hfree hr hy hS H
    refine ⟨fun h => (by rw [h] at hr; cases hr), fun j hj => ?_⟩
    by_cases hji : j = i
    · subst hji; exact inOp_yields hro hall hi hy hS ⟨fun _ h => h, H⟩
    · have g1 := H.2 j (ready_mono hj hji)
      obtain ⟨hjun, oj, hoj, hbefore⟩ := mem_ready.1 hj
      have hnot : ∀ e ∈ oj.after, Region.binds md e = true → e.on ≠ i := fun e he hb heq => by
        have g2 := hbefore e he hb
        have g0 := (mem_ready.1 hr).1
        rw [heq] at g2
        rw [getD_true_of g2] at g0
        cases g0
      have g3 := inOp_put hro hall hoj (hfree j oj hoj hji hjun hnot) (fun cs b => hsel i oi cs b hi) (fun cs b => hsel j oj cs b hoj) hQ hy g1
      have hfree' : ∀ k ok, ops[k]? = some ok → k ≠ i → (listed.setIfInBounds j true).getD k true = false →
          (∀ e ∈ ok.after, Region.binds md e = true → e.on ≠ i) → oi.apart ops ok = true := fun k ok hk hki hun hno => by
        refine hfree k ok hk hki ?_ hno
        by_cases hjk : j = k
        · subst hjk; exact hjun
        · rw [getD_set_ne true hjk] at hun; exact hun
      have hW : ∀ w', (keep j = true → S w → S w') → S' w' := fun w' hk => by
        rcases hkeep with h | ⟨rfl, h⟩
        · exact h _
        · cases hkj : keep j with
          | true => exact hk hkj hS
          | false =>
            obtain ⟨m, hn⟩ := h j (Array.getElem?_eq_some_iff.1 hoj).1 hji hkj
            exact (needs_not hcl hn hj hr).elim
      refine wpOpIn_mono (fun a' w' g4 => ⟨g4.2.1, ih (listed.setIfInBounds j true) a' w' (hcl.set hj) hfree' (ready_mono hr (Ne.symm hji)) g4.1 (hW w' g4.2.1) ?_⟩) g3
      rw [Array.setIfInBounds_comm _ _ hji]
      exact g4.2.2
/-- Operation i comes next: it yields v in every world that meets S. -/
theorem wpKIn_take (hro : ∀ (i : Nat) (o : Oper) (ρ : Operand → Value), ops[i]? = some o → Oper.semAt F.round ρ o = execOp ρ o) (hall : ∀ f, F.fn f) (i : Nat) {dst : Option Tmp} {op : Op} {type : TypeId} {pos : String} {after : Array Edge} {guard : Option (Nat × Bool)} {v : Value} {fuel : Nat} {listed : Array Bool} {a a' : Act} {w : World} (hi : ops.toList[i]? = some (Oper.mk dst op type pos after guard))
    (hs : Region.noSelect ops = true) (hcl : closedB md ops listed = true) (hwt : waitAll md ops keep i = true) (hf : Region.free md ops listed i = true) (hr : (Region.ready md ops listed).contains i = true)
    (hQ : ∀ (c : List PanicEntry) (a : Act) (w : World), Q (.panic c) (a.put dst v) w → Q (.panic c) a w) (hS : S w)
    (hy : YieldsIf P ops S (Oper.mk dst op type pos after guard) v a) (ha : a.put dst v = a')
    (h : wpKIn F n P md ops Q S keep fuel (listed.setIfInBounds i true) a' w) : wpKIn F n P md ops Q S keep (fuel + 1) listed a w :=
  wpKIn_first hro hall (by rw [← hi]; simp) (Region.noSelect_spec hs) hQ (.inr ⟨rfl, waitAll_spec hwt⟩) fuel listed a w (closed_of hcl) (Region.free_spec (by rw [← hi]; simp) hf) (by simpa using hr) hy hS (by rw [show (Oper.mk dst op type pos after guard).dst = dst from rfl, ha]; exact h)
/-- Operation i comes next: it yields v in every world. -/
theorem wpKIn_take0 (hro : ∀ (i : Nat) (o : Oper) (ρ : Operand → Value), ops[i]? = some o → Oper.semAt F.round ρ o = execOp ρ o) (hall : ∀ f, F.fn f) (i : Nat) {dst : Option Tmp} {op : Op} {type : TypeId} {pos : String} {after : Array Edge} {guard : Option (Nat × Bool)} {v : Value} {fuel : Nat} {listed : Array Bool} {a a' : Act} {w : World} (hi : ops.toList[i]? = some (Oper.mk dst op type pos after guard))
    (hs : Region.noSelect ops = true) (hcl : closedB md ops listed = true) (hf : Region.free md ops listed i = true) (hr : (Region.ready md ops listed).contains i = true)
    (hQ : ∀ (c : List PanicEntry) (a : Act) (w : World), Q (.panic c) (a.put dst v) w → Q (.panic c) a w)
    (hy : YieldsIf P ops (fun _ => True) (Oper.mk dst op type pos after guard) v a) (ha : a.put dst v = a')
    (h : wpKIn F n P md ops Q S keep fuel (listed.setIfInBounds i true) a' w) : wpKIn F n P md ops Q S keep (fuel + 1) listed a w :=
  wpKIn_first hro hall (by rw [← hi]; simp) (Region.noSelect_spec hs) hQ (.inl fun _ => trivial) fuel listed a w (closed_of hcl) (Region.free_spec (by rw [← hi]; simp) hf) (by simpa using hr) hy trivial (by rw [show (Oper.mk dst op type pos after guard).dst = dst from rfl, ha]; exact h)
/-- Only i can come up: it is walked as a plain list of one. -/
theorem wpKIn_one (i : Nat) {o : Oper} {fuel : Nat} {listed : Array Bool} {a : Act} {w : World} (hi : ops.toList[i]? = some o) (hr : Region.ready md ops listed = [i])
    (h : ∀ K : Act → World → Prop, (∀ a' w', (keep i = true → S w → S w') → wpKIn F n P md ops Q S keep fuel (listed.setIfInBounds i true) a' w' → K a' w') → wpListIn F n P ops (Exit.then K Q) [o] a w) : wpKIn F n P md ops Q S keep (fuel + 1) listed a w := by
  refine ⟨fun h0 => (by rw [hr] at h0; cases h0), fun j hj => ?_⟩
  rw [hr, List.mem_singleton] at hj
  subst hj
  have g1 := h _ fun a' w' h1 h2 => And.intro h1 h2
  have ho : ops[j]? = some o := by rw [← hi]; simp
  unfold wpOpIn
  simp only [ho]
  unfold wpListIn at g1
  by_cases hw : Region.wanted o (yielded ops a.tmps) = true
  case neg => simp only [hw] at g1 ⊢; exact g1
  simp only [hw, if_true] at g1 ⊢
  unfold Oper.wpIn at *
  refine ⟨g1.1, ?_⟩
  have g1 := g1.2
  generalize (o.semAt F.round a.eval).run P w = r at *
  cases r with
  | halt x w' => cases x <;> simp only [Oper.uponIn] at g1 ⊢ <;> exact g1
  | ok x w' =>
    cases x <;> simp only [Oper.uponIn, wpListIn] at g1 ⊢
    case value u => exact g1
    case skip => exact g1
    case defer d => exact g1
    case row row args => exact ⟨g1.1, RowsIn.mono g1.2 fun u w'' he => he⟩
    case enter f args =>
      refine ⟨g1.1, CallsIn.mono g1.2 fun e w'' he => ?_⟩
      cases e with
      | returned u => exact he
      | panicked c => exact he
      | outgrown => exact he
    case round l f tmps assign body =>
      refine ⟨g1.1, RoundIn.mono g1.2 fun e w'' he => ?_⟩
      cases e with
      | returned u => exact he
      | panicked c => exact he
      | outgrown => exact he
theorem wpKIn_end {listed : Array Bool} {a : Act} {w : World} (hr : (Region.ready md ops listed).isEmpty = true) (h : Q .normal a w) : ∀ fuel, wpKIn F n P md ops Q S keep fuel listed a w
  | 0 => ⟨by simpa using hr, h⟩
  | _ + 1 => ⟨fun _ => h, by rw [show Region.ready md ops listed = [] by simpa using hr]; simp⟩
/-- THE BEGINNING. -/
theorem wpIn_region_K (S : World → Prop) (keep : Nat → Bool) {id : Nat} {a : Act} {w : World} (hm : P.follows .mixedOrders = true)
    (h : wpKIn F n P .any ops Q S keep ops.size (Array.replicate ops.size false) a { w with drawn := w.drawn + 1 }) : (Code.region id ops true).wpIn F n P Q a w :=
  wpIn_region_any hm (wpAnyIn_of_K _ _ _ _ h)
end
end Go.Proofs.YtoopopjcojphaaaGreatDoor
/-
  THE PROGRAM's NAMES: isWord, isReserved, isLower of package tree.
-/
namespace Go.Proofs.YtoopopjcojphaaaGreatDoor
open Go.ChangeShapes Go.WideShapes Go.ChangeAt Go.RowKit
set_option linter.unusedVariables false
def wordB (s : ByteArray) : Bool := decide (1 ≤ s.size) && decide (s.size ≤ 32) && (List.range s.size).all fun i => restB (bt s i)
def resL : List ByteArray := [⟨#[95]⟩, ⟨#[116, 114, 117, 101]⟩, ⟨#[102, 97, 108, 115, 101]⟩, ⟨#[97, 110, 100]⟩, ⟨#[97, 110, 100, 97, 108, 115, 111]⟩, ⟨#[97, 115]⟩, ⟨#[99, 97, 115, 101]⟩, ⟨#[100, 97, 116, 97, 116, 121, 112, 101]⟩, ⟨#[100, 105, 118]⟩, ⟨#[101, 108, 115, 101]⟩, ⟨#[101, 110, 100]⟩, ⟨#[101, 120, 99, 101, 112, 116, 105, 111, 110]⟩, ⟨#[102, 110]⟩, ⟨#[102, 117, 110]⟩, ⟨#[104, 97, 110, 100, 108, 101]⟩, ⟨#[105, 102]⟩, ⟨#[105, 110]⟩, ⟨#[108, 101, 116]⟩, ⟨#[109, 111, 100]⟩, ⟨#[111, 102]⟩, ⟨#[111, 114, 101, 108, 115, 101]⟩, ⟨#[112, 114, 105, 110, 116]⟩, ⟨#[114, 97, 105, 115, 101]⟩, ⟨#[114, 101, 97, 100]⟩, ⟨#[114, 101, 102]⟩, ⟨#[116, 104, 101, 110]⟩, ⟨#[118, 97, 108]⟩]
theorem word_upto {s : ByteArray} {k : Nat} (h : ∀ i, i < k → restB (bt s i) = true) (hk : k = s.size) : ((List.range s.size).all fun i => restB (bt s i)) = true := by
  rw [List.all_eq_true]
  intro i hi
  have := List.mem_range.1 hi
  exact h i (by omega)
theorem word_not {s : ByteArray} {k : Nat} (h2 : k < s.size) (h : restB (bt s k) = false) : ((List.range s.size).all fun i => restB (bt s i)) = false := by
  rw [Bool.eq_false_iff]
  intro hh
  have := List.all_eq_true.1 hh k (List.mem_range.2 h2)
  rw [h] at this
  cases this
theorem low_eq (s : ByteArray) : lowB s = (wordB s && letB (bt s 0) false && !resL.any fun t => decide (t = s)) := by
  have hw : shapedB s false = (wordB s && letB (bt s 0) false) := by
    rw [Bool.eq_iff_iff]
    simp only [shapedB, wordB, Bool.and_eq_true, decide_eq_true_eq, List.all_eq_true, List.mem_range, Bool.or_eq_true, beq_iff_eq]
    constructor
    · rintro ⟨⟨⟨h1, h2⟩, h3⟩, h4⟩
      refine ⟨⟨⟨h1, h2⟩, fun i hi => ?_⟩, h3⟩
      rcases h4 i hi with rfl | h
      · unfold letB at h3
        unfold restB
        simp only [Bool.false_eq_true, if_false, decide_eq_true_eq] at h3 ⊢
        omega
      · exact h
    · rintro ⟨⟨⟨h1, h2⟩, h4⟩, h3⟩
      exact ⟨⟨⟨h1, h2⟩, h3⟩, fun i hi => .inr (h4 i hi)⟩
  have hl : resL = ⟨#[95]⟩ :: ⟨#[116, 114, 117, 101]⟩ :: ⟨#[102, 97, 108, 115, 101]⟩ :: wordsL := rfl
  unfold lowB
  rw [hw, hl]
  simp only [List.any_cons, Bool.not_or, Bool.and_assoc]
  congr 1
  congr 1
  have e : ∀ t : ByteArray, decide (s ≠ t) = !decide (t = s) := fun t => by
    by_cases h : t = s
    · subst h; simp
    · rw [decide_eq_true (show s ≠ t from fun e : s = t => h e.symm), decide_eq_false h]; rfl
  rw [e, e, e]
set_option maxHeartbeats 1000000 in
theorem isWord_any (s : ByteArray) (hs : s.size ≤ 1048576) (b : Bool) (hb : wordB s = b) (w : World) : Calls Tryz.prog 140 #[.string s] w fun e w' => e = .returned (.bool b) ∧ w = w' := by
  have HB := Lib.hid hb
  clear hb
  by_cases h1 : 1 ≤ s.size
  case neg =>
    have q1 : ((s.size : Int) < 1) := by omega
    have e : b = false := by rw [← HB.out]; simp [wordB, show ¬ 1 ≤ s.size from h1]
    subst e
    go_enter Tryz.func140, Tryz.ntmps140
    go_wp2
    go_ret
    exact ⟨rfl, rfl⟩
  by_cases h2 : s.size ≤ 32
  case neg =>
    have q0 : (1 : Int) ≤ s.size := by omega
    have q1 : (32 < (s.size : Int)) := by omega
    have e : b = false := by rw [← HB.out]; simp [wordB, h2]
    subst e
    go_enter Tryz.func140, Tryz.ntmps140
    go_wp2
    go_ret
    exact ⟨rfl, rfl⟩
  have q0 : (1 : Int) ≤ s.size := by omega
  have q1 : (s.size : Int) ≤ 32 := by omega
  have HE : Hid (wordB s = ((List.range s.size).all fun i => restB (bt s i))) := Lib.hid (by simp only [wordB, h1, h2, decide_true, Bool.true_and])
  go_enter Tryz.func140, Tryz.ntmps140
  go_wp2
  go_loop [3, 4, 15] (fun _ _ z => ∃ k : Nat, k ≤ s.size ∧ z = .int .i64 k ∧ ∀ i, i < k → restB (bt s i) = true) (fun _ _ z => s.size - (intOf z).toNat)
  case atStart => exact ⟨0, Nat.zero_le _, rfl, fun i a => by omega⟩
  case round =>
    obtain ⟨k, hk, rfl, hall⟩ := hrel
    have HA := Lib.hid hall
    clear hall
    by_cases hkl : k < s.size
    · have hbk := bt_in hkl
      have hlk : s[k].toNat < 256 := UInt8.toNat_lt _
      have HBK := Lib.hid hbk
      have HKL := Lib.hid hkl
      clear hbk
      cases hr : restB s[k].toNat
      · have hr' := hr
        unfold restB at hr'
        rw [decide_eq_false_iff_not] at hr'
        have HR := Lib.hid hr
        have e : b = false := by rw [← HB.out, HE.out]; exact word_not hkl (by rw [HBK.out]; exact hr)
        subst e
        clear hr
        have c1 : (s[k].toNat < 97 ∨ 122 < s[k].toNat) := by omega
        have c2 : (s[k].toNat < 65 ∨ 90 < s[k].toNat) := by omega
        have c3 : (s[k].toNat < 48 ∨ 57 < s[k].toNat) := by omega
        have c4 : ¬ (s[k].toNat = 95) := by omega
        have c5 : ¬ (s[k].toNat = 39) := by omega
        clear hr'
        have q4 : ((s[k].toNat : Int) == 95) = false := by rw [beq_eq_false_iff_ne]; omega
        have q5 : ((s[k].toNat : Int) == 39) = false := by rw [beq_eq_false_iff_ne]; omega
        clear c4 c5
        rcases c1 with c1 | c1 <;> rcases c2 with c2 | c2 <;> rcases c3 with c3 | c3 <;> first | (exfalso; omega) | skip
        all_goals go_wp2
        all_goals first | (go_ret; exact ⟨rfl, rfl⟩) | (exfalso; omega) | (exfalso; simp_all; omega)
      · have hr' := hr
        unfold restB at hr'
        rw [decide_eq_true_eq] at hr'
        have HR := Lib.hid hr
        clear hr
        rcases hr' with hr' | hr' | hr' | hr' | hr'
        rotate_left 3
        · have q : ((s[k].toNat : Int) == 95) = true := by rw [beq_iff_eq]; omega
          go_wp2
          all_goals first | exact ⟨⟨k + 1, by omega, by go_num, fun i hi => (by by_cases e : i = k; (· subst e; rw [HBK.out]; exact HR.out); (· exact HA.out i (by omega)))⟩, by simp [intOf]; omega⟩ | (exfalso; omega) | (exfalso; simp_all; omega)
        · have q0 : ((s[k].toNat : Int) == 95) = false := by rw [beq_eq_false_iff_ne]; omega
          have q : ((s[k].toNat : Int) == 39) = true := by rw [beq_iff_eq]; omega
          go_wp2
          all_goals first | exact ⟨⟨k + 1, by omega, by go_num, fun i hi => (by by_cases e : i = k; (· subst e; rw [HBK.out]; exact HR.out); (· exact HA.out i (by omega)))⟩, by simp [intOf]; omega⟩ | (exfalso; omega) | (exfalso; simp_all; omega)
        all_goals go_wp2
        all_goals first | exact ⟨⟨k + 1, by omega, by go_num, fun i hi => (by by_cases e : i = k; (· subst e; rw [HBK.out]; exact HR.out); (· exact HA.out i (by omega)))⟩, by simp [intOf]; omega⟩ | (exfalso; omega) | (exfalso; simp_all; omega)
    · have hk' : k = s.size := by omega
      have e : b = true := by rw [← HB.out, HE.out]; exact word_upto HA.out hk'
      subst e
      go_wp2
      go_ret
      exact ⟨rfl, rfl⟩
set_option maxHeartbeats 4000000 in
theorem isReserved_any (s : ByteArray) (w : World) : Calls Tryz.prog 141 #[.string s] w fun e w' => e = .returned (.bool (resL.any fun t => decide (t = s))) ∧ w = w' := by
  by_cases e0 : s = ⟨#[95]⟩
  case pos =>
    subst e0
    go_enter Tryz.func141, Tryz.ntmps141
    go_wp2
    go_ret
    exact ⟨rfl, rfl⟩
  have q0 := str_no e0
  have E0 := Lib.hid e0
  clear e0
  by_cases e1 : s = ⟨#[116, 114, 117, 101]⟩
  case pos =>
    subst e1
    go_enter Tryz.func141, Tryz.ntmps141
    go_wp2
    go_ret
    exact ⟨rfl, rfl⟩
  have q1 := str_no e1
  have E1 := Lib.hid e1
  clear e1
  by_cases e2 : s = ⟨#[102, 97, 108, 115, 101]⟩
  case pos =>
    subst e2
    go_enter Tryz.func141, Tryz.ntmps141
    go_wp2
    go_ret
    exact ⟨rfl, rfl⟩
  have q2 := str_no e2
  have E2 := Lib.hid e2
  clear e2
  by_cases e3 : s = ⟨#[97, 110, 100]⟩
  case pos =>
    subst e3
    go_enter Tryz.func141, Tryz.ntmps141
    go_wp2
    go_ret
    exact ⟨rfl, rfl⟩
  have q3 := str_no e3
  have E3 := Lib.hid e3
  clear e3
  by_cases e4 : s = ⟨#[97, 110, 100, 97, 108, 115, 111]⟩
  case pos =>
    subst e4
    go_enter Tryz.func141, Tryz.ntmps141
    go_wp2
    go_ret
    exact ⟨rfl, rfl⟩
  have q4 := str_no e4
  have E4 := Lib.hid e4
  clear e4
  by_cases e5 : s = ⟨#[97, 115]⟩
  case pos =>
    subst e5
    go_enter Tryz.func141, Tryz.ntmps141
    go_wp2
    go_ret
    exact ⟨rfl, rfl⟩
  have q5 := str_no e5
  have E5 := Lib.hid e5
  clear e5
  by_cases e6 : s = ⟨#[99, 97, 115, 101]⟩
  case pos =>
    subst e6
    go_enter Tryz.func141, Tryz.ntmps141
    go_wp2
    go_ret
    exact ⟨rfl, rfl⟩
  have q6 := str_no e6
  have E6 := Lib.hid e6
  clear e6
  by_cases e7 : s = ⟨#[100, 97, 116, 97, 116, 121, 112, 101]⟩
  case pos =>
    subst e7
    go_enter Tryz.func141, Tryz.ntmps141
    go_wp2
    go_ret
    exact ⟨rfl, rfl⟩
  have q7 := str_no e7
  have E7 := Lib.hid e7
  clear e7
  by_cases e8 : s = ⟨#[100, 105, 118]⟩
  case pos =>
    subst e8
    go_enter Tryz.func141, Tryz.ntmps141
    go_wp2
    go_ret
    exact ⟨rfl, rfl⟩
  have q8 := str_no e8
  have E8 := Lib.hid e8
  clear e8
  by_cases e9 : s = ⟨#[101, 108, 115, 101]⟩
  case pos =>
    subst e9
    go_enter Tryz.func141, Tryz.ntmps141
    go_wp2
    go_ret
    exact ⟨rfl, rfl⟩
  have q9 := str_no e9
  have E9 := Lib.hid e9
  clear e9
  by_cases e10 : s = ⟨#[101, 110, 100]⟩
  case pos =>
    subst e10
    go_enter Tryz.func141, Tryz.ntmps141
    go_wp2
    go_ret
    exact ⟨rfl, rfl⟩
  have q10 := str_no e10
  have E10 := Lib.hid e10
  clear e10
  by_cases e11 : s = ⟨#[101, 120, 99, 101, 112, 116, 105, 111, 110]⟩
  case pos =>
    subst e11
    go_enter Tryz.func141, Tryz.ntmps141
    go_wp2
    go_ret
    exact ⟨rfl, rfl⟩
  have q11 := str_no e11
  have E11 := Lib.hid e11
  clear e11
  by_cases e12 : s = ⟨#[102, 110]⟩
  case pos =>
    subst e12
    go_enter Tryz.func141, Tryz.ntmps141
    go_wp2
    go_ret
    exact ⟨rfl, rfl⟩
  have q12 := str_no e12
  have E12 := Lib.hid e12
  clear e12
  by_cases e13 : s = ⟨#[102, 117, 110]⟩
  case pos =>
    subst e13
    go_enter Tryz.func141, Tryz.ntmps141
    go_wp2
    go_ret
    exact ⟨rfl, rfl⟩
  have q13 := str_no e13
  have E13 := Lib.hid e13
  clear e13
  by_cases e14 : s = ⟨#[104, 97, 110, 100, 108, 101]⟩
  case pos =>
    subst e14
    go_enter Tryz.func141, Tryz.ntmps141
    go_wp2
    go_ret
    exact ⟨rfl, rfl⟩
  have q14 := str_no e14
  have E14 := Lib.hid e14
  clear e14
  by_cases e15 : s = ⟨#[105, 102]⟩
  case pos =>
    subst e15
    go_enter Tryz.func141, Tryz.ntmps141
    go_wp2
    go_ret
    exact ⟨rfl, rfl⟩
  have q15 := str_no e15
  have E15 := Lib.hid e15
  clear e15
  by_cases e16 : s = ⟨#[105, 110]⟩
  case pos =>
    subst e16
    go_enter Tryz.func141, Tryz.ntmps141
    go_wp2
    go_ret
    exact ⟨rfl, rfl⟩
  have q16 := str_no e16
  have E16 := Lib.hid e16
  clear e16
  by_cases e17 : s = ⟨#[108, 101, 116]⟩
  case pos =>
    subst e17
    go_enter Tryz.func141, Tryz.ntmps141
    go_wp2
    go_ret
    exact ⟨rfl, rfl⟩
  have q17 := str_no e17
  have E17 := Lib.hid e17
  clear e17
  by_cases e18 : s = ⟨#[109, 111, 100]⟩
  case pos =>
    subst e18
    go_enter Tryz.func141, Tryz.ntmps141
    go_wp2
    go_ret
    exact ⟨rfl, rfl⟩
  have q18 := str_no e18
  have E18 := Lib.hid e18
  clear e18
  by_cases e19 : s = ⟨#[111, 102]⟩
  case pos =>
    subst e19
    go_enter Tryz.func141, Tryz.ntmps141
    go_wp2
    go_ret
    exact ⟨rfl, rfl⟩
  have q19 := str_no e19
  have E19 := Lib.hid e19
  clear e19
  by_cases e20 : s = ⟨#[111, 114, 101, 108, 115, 101]⟩
  case pos =>
    subst e20
    go_enter Tryz.func141, Tryz.ntmps141
    go_wp2
    go_ret
    exact ⟨rfl, rfl⟩
  have q20 := str_no e20
  have E20 := Lib.hid e20
  clear e20
  by_cases e21 : s = ⟨#[112, 114, 105, 110, 116]⟩
  case pos =>
    subst e21
    go_enter Tryz.func141, Tryz.ntmps141
    go_wp2
    go_ret
    exact ⟨rfl, rfl⟩
  have q21 := str_no e21
  have E21 := Lib.hid e21
  clear e21
  by_cases e22 : s = ⟨#[114, 97, 105, 115, 101]⟩
  case pos =>
    subst e22
    go_enter Tryz.func141, Tryz.ntmps141
    go_wp2
    go_ret
    exact ⟨rfl, rfl⟩
  have q22 := str_no e22
  have E22 := Lib.hid e22
  clear e22
  by_cases e23 : s = ⟨#[114, 101, 97, 100]⟩
  case pos =>
    subst e23
    go_enter Tryz.func141, Tryz.ntmps141
    go_wp2
    go_ret
    exact ⟨rfl, rfl⟩
  have q23 := str_no e23
  have E23 := Lib.hid e23
  clear e23
  by_cases e24 : s = ⟨#[114, 101, 102]⟩
  case pos =>
    subst e24
    go_enter Tryz.func141, Tryz.ntmps141
    go_wp2
    go_ret
    exact ⟨rfl, rfl⟩
  have q24 := str_no e24
  have E24 := Lib.hid e24
  clear e24
  by_cases e25 : s = ⟨#[116, 104, 101, 110]⟩
  case pos =>
    subst e25
    go_enter Tryz.func141, Tryz.ntmps141
    go_wp2
    go_ret
    exact ⟨rfl, rfl⟩
  have q25 := str_no e25
  have E25 := Lib.hid e25
  clear e25
  by_cases e26 : s = ⟨#[118, 97, 108]⟩
  case pos =>
    subst e26
    go_enter Tryz.func141, Tryz.ntmps141
    go_wp2
    go_ret
    exact ⟨rfl, rfl⟩
  have q26 := str_no e26
  have E26 := Lib.hid e26
  clear e26
  go_enter Tryz.func141, Tryz.ntmps141
  go_wp2
  go_ret
  refine ⟨ret_bool ?_, rfl⟩
  symm
  rw [Bool.eq_false_iff]
  intro h
  obtain ⟨t, ht, he⟩ := List.any_eq_true.1 h
  have he := of_decide_eq_true he
  subst he
  simp only [resL, List.mem_cons, List.not_mem_nil, or_false] at ht
  rcases ht with h | h | h | h | h | h | h | h | h | h | h | h | h | h | h | h | h | h | h | h | h | h | h | h | h | h | h
  · exact E0.out h
  · exact E1.out h
  · exact E2.out h
  · exact E3.out h
  · exact E4.out h
  · exact E5.out h
  · exact E6.out h
  · exact E7.out h
  · exact E8.out h
  · exact E9.out h
  · exact E10.out h
  · exact E11.out h
  · exact E12.out h
  · exact E13.out h
  · exact E14.out h
  · exact E15.out h
  · exact E16.out h
  · exact E17.out h
  · exact E18.out h
  · exact E19.out h
  · exact E20.out h
  · exact E21.out h
  · exact E22.out h
  · exact E23.out h
  · exact E24.out h
  · exact E25.out h
  · exact E26.out h
theorem isLower_any (s : ByteArray) (hs : s.size ≤ 1048576) (w : World) : Calls Tryz.prog 118 #[.string s] w fun e w' => e = .returned (.bool (lowB s)) ∧ w = w' := by
  have HE := Lib.hid (low_eq s)
  cases hw : wordB s
  case false =>
    have HW := Lib.hid hw
    clear hw
    go_enter Tryz.func118, Tryz.ntmps118
    go_wp2_with (go_at_call 140; refine (isWord_any s hs _ HW.out _).mono ?_; rintro e w' ⟨rfl, rfl⟩)
    go_ret
    exact ⟨ret_bool (by rw [HE.out, HW.out]; rfl), rfl⟩
  have h1 : 0 < s.size := by
    unfold wordB at hw
    simp only [Bool.and_eq_true, decide_eq_true_eq] at hw
    omega
  have HW := Lib.hid hw
  have hlt : s[0].toNat < 256 := UInt8.toNat_lt _
  have HBT := Lib.hid (bt_in h1)
  clear hw
  cases hl : letB (bt s 0) false
  case false =>
    have HL := Lib.hid hl
    rw [HBT.out] at hl
    unfold letB at hl
    simp only [Bool.false_eq_true, if_false, decide_eq_false_iff_not] at hl
    have c1 : ¬ s[0].toNat = 95 := by omega
    have c2 : s[0].toNat < 97 ∨ 122 < s[0].toNat := by omega
    clear hl
    rcases c2 with c2 | c2
    all_goals
      go_enter Tryz.func118, Tryz.ntmps118
      go_wp2_with (go_at_call 140; refine (isWord_any s hs _ HW.out _).mono ?_; rintro e w' ⟨rfl, rfl⟩)
    all_goals first | (exfalso; omega) | (go_ret; exact ⟨ret_bool (by rw [HE.out, HW.out, HL.out]; rfl), rfl⟩)
  have HL := Lib.hid hl
  rw [HBT.out] at hl
  unfold letB at hl
  simp only [Bool.false_eq_true, if_false, decide_eq_true_eq] at hl
  have hR := isReserved_any s
  have HF : Hid (lowB s = !resL.any fun t => decide (t = s)) := Lib.hid (by rw [HE.out, HW.out, HL.out]; rfl)
  generalize (resL.any fun t => decide (t = s)) = r at hR HF
  have HRR := Lib.hid hR
  clear hR
  rcases hl with hl | hl
  all_goals
    go_enter Tryz.func118, Tryz.ntmps118
    go_wp2_with (first | (go_at_call 140; refine (isWord_any s hs _ HW.out _).mono ?_; rintro e w' ⟨rfl, rfl⟩) | (go_at_call 141; refine (HRR.out _).mono ?_; rintro e w' ⟨rfl, rfl⟩))
  all_goals first | (exfalso; omega) | (go_ret; exact ⟨ret_bool (by rw [HF.out]), rfl⟩)
end Go.Proofs.YtoopopjcojphaaaGreatDoor
/-
  tree.RightPat OF A VARIABLE: the iterator over one step.
-/
namespace Go.Proofs.YtoopopjcojphaaaGreatDoor
open Go.ChangeShapes Go.WideShapes Go.ChangeAt Go.RowKit Go.Shelf
set_option linter.unusedVariables false
attribute [local go_sem] Oper.semAt_some
theorem roundIn_wide {n m : Nat} {P : Program} {l : Nat} {f : FuncId} {tmps : Array Value} {assign body : Code} {w : World} {R : Ending → World → Prop} (h : RoundIn Fence.wide n P l f tmps assign body w R) : RoundIn Fence.wide m P l f tmps assign body w R :=
  ⟨h.1, fun c cs _ => h.2 c cs (room_wide _)⟩
theorem each_nil (n : Nat) (f : Value) (w : World) : CallsIn Fence.wide n Tryz.prog 123 #[.slice none 0 0, f] w fun e w' => e = .returned (.bool true) ∧ w = w' := by
  refine callsIn_wide.2 ?_
  go_enter Tryz.func123, Tryz.ntmps123
  go_wp2
  go_loop [5, 8] (fun _ z => z = .int .i64 0) (fun _ _ => 0)
  case atStart => rfl
  case round =>
    subst hrel
    go_wp2
    go_ret
    exact ⟨rfl, rfl⟩
def leafV (Bp : Nat) : Value := .agg #[.iface 133 (.pointer (some ⟨Bp, 0, none⟩)), .int .i64 0, .int .i64 1, .bool false]
def patRow (s : ByteArray) : Array Value := #[.int .i64 2, .int .i64 0, .string s, .int .i64 0, .slice none 0 0]
def LeafAt (W : World) (s : ByteArray) (Bp : Nat) : Prop := W.heap[Bp]? = some (.cells (patRow s) 95 (0, 0))
theorem LeafAt.on {W W' : World} {n₀ Bp : Nat} {s : ByteArray} (h : LeafAt W s Bp) (hb : Below n₀ W W') (hBp : Bp < n₀) : LeafAt W' s Bp := (hb.block _ hBp).trans h
theorem LeafAt.cells {W : World} {Bp : Nat} {s : ByteArray} (h : LeafAt W s Bp) : W.cell? ⟨Bp, 0, none⟩ = some (.int .i64 2) ∧ W.cell? ⟨Bp, 1, none⟩ = some (.int .i64 0) ∧ W.cell? ⟨Bp, 2, none⟩ = some (.string s) ∧ W.cell? ⟨Bp, 3, none⟩ = some (.int .i64 0) ∧ W.cell? ⟨Bp, 4, none⟩ = some (.slice none 0 0) := by
  refine ⟨?_, ?_, ?_, ?_, ?_⟩ <;> rw [cell_of_row W Bp _ _ _ _ h] <;> rfl
theorem grown_alloc2 (W : World) (o o' : Obj) : W.grownBy ((W.alloc o).alloc o').drew none := ⟨rfl, rfl, rfl, by show W.heap.size ≤ ((W.alloc o).alloc o').heap.size; rw [World.size_alloc, World.size_alloc]; omega, fun k hk _ => by
  show ((W.alloc o).alloc o').heap[k]? = _
  rw [(below_new _ _).block _ (by simp; omega), (below_new _ _).block _ hk]⟩
set_option maxRecDepth 100000 in
set_option maxHeartbeats 2000000 in
theorem pat_leaf (n m l n₀ Bp : Nat) (s : ByteArray) (hBp : Bp < n₀) (J Jx : List Unit → World → Prop) (W : World) (hz : n₀ ≤ W.heap.size) (hJa : AbidesFrom W.heap.size J)
    (hY : ∀ pre x W1, J pre W1 → pre.length < 1 → YieldAt Fence.wide m Tryz.prog l #[leafV Bp] W1 fun e W' => (e = .returned (.bool true) ∧ J (pre ++ [x]) W' ∧ Below n₀ W1 W') ∨ (e = .returned (.bool false) ∧ Jx (pre ++ [x]) W'))
    (hp : LeafAt W s Bp) (h0 : J [] W) : CallsIn Fence.wide n Tryz.prog 106 #[.func (.yield l) #[] #[], .pointer (some ⟨Bp, 0, none⟩), .int .i64 1] W fun e W' => (∃ v, e = .returned v) ∧ (J [()] W' ∨ Jx [()] W') := by
  refine callsIn_of_wp Tryz.func106 rfl trivial ?_ rfl
  simp only [Tryz.ntmps106, List.size_toArray, List.length_cons, List.length_nil, Nat.reduceAdd, Nat.reduceSub, Array.replicate_succ, Array.replicate_zero, List.push_toArray, List.append_toArray, List.nil_append, List.cons_append]
  gi_wp2
  obtain ⟨W0, hW0⟩ : ∃ W0, W0 = ((W.alloc (.cells #[.func (.yield l) #[] #[]] 150)).alloc (.cells #[.int .i64 1] 3)) := ⟨_, rfl⟩
  have hb0 : Below n₀ W W0.drew := by rw [hW0]; exact below_drew1 (((Below.refl _ _).alloc hz _).alloc (by simp; omega) _)
  have hJ0 : J [] W0.drew := hJa _ _ _ none h0 (by rw [hW0]; exact grown_alloc2 _ _ _) (fun r h => by cases h)
  have hp0 := hp.on hb0 hBp
  obtain ⟨fn, tmps, assign, body, hy, hR⟩ := hY [] () W0.drew hJ0 (by simp)
  have g1 : W0.heap[W.heap.size]? = some (.cells #[.func (.yield l) #[] #[]] 150 (0, 0)) := by rw [hW0]; exact (Below.heap_alloc _ _ _ (by simp)).trans (heap_alloc_new _ _)
  have g2 : W0.heap[W.heap.size + 1]? = some (.cells #[.int .i64 1] 3 (0, 0)) := by rw [hW0]; have := heap_alloc_new (W.alloc (.cells #[.func (.yield l) #[] #[]] 150)) (.cells #[.int .i64 1] 3); rwa [World.size_alloc] at this
  have HG : Hid (∀ W', Below W0.heap.size W0 W' → W'.cell? ⟨W.heap.size, 0, none⟩ = some (.func (.yield l) #[] #[]) ∧ W'.cell? ⟨W.heap.size + 1, 0, none⟩ = some (.int .i64 1) ∧ W'.cell? ⟨Bp, 1, none⟩ = some (.int .i64 0)) := Lib.hid fun W' h => by
    have k1 := (h.block _ (Array.getElem?_eq_some_iff.1 g1).1).trans g1
    have k2 := (h.block _ (Array.getElem?_eq_some_iff.1 g2).1).trans g2
    have k3 : LeafAt W' s Bp := (h.block _ (Array.getElem?_eq_some_iff.1 (show W0.heap[Bp]? = _ from hp0)).1).trans hp0
    exact ⟨by rw [cell_of_row W' _ _ _ _ _ k1]; rfl, by rw [cell_of_row W' _ _ _ _ _ k2]; rfl, k3.cells.2.1⟩
  have HP := Lib.hid hp0
  have HR := Lib.hid hR
  have HY := Lib.hid hy
  rw [← hW0]
  clear hW0 hb0 hJ0 hp0 g1 g2 hR hy
  refine wpIn_region_K (fun w' => Below W0.heap.size W0 w') (fun j => j < 9) (by kernel_rfl) ?_
  have HS := Lib.hid (below_drew1 (Below.refl W0.heap.size W0))
  refine wpKIn_take sem_fun (fun _ => trivial) (v := ?_) (a' := ?_) 0 rfl (by kernel_rfl) (by kernel_rfl) (by kernel_rfl) (by kernel_rfl) (by kernel_rfl) (fun _ _ _ h => h) HS.out ?_ ?_ ?_
  rotate_left 2
  · refine .inl ⟨by kernel_rfl, ?_⟩; intro wS hS; have hc := (HG.out _ hS).1; clear hS; go_simp; with_reducible rfl
  · go_simp; with_reducible rfl
  refine wpKIn_take0 sem_fun (fun _ => trivial) (v := ?_) (a' := ?_) 1 rfl (by kernel_rfl) (by kernel_rfl) (by kernel_rfl) (by kernel_rfl) (fun _ _ _ h => h) ?_ ?_ ?_
  rotate_left 2
  · refine .inl ⟨by kernel_rfl, ?_⟩; intro wS hS; clear hS; go_simp; with_reducible rfl
  · go_simp; with_reducible rfl
  refine wpKIn_take0 sem_fun (fun _ => trivial) (v := ?_) (a' := ?_) 2 rfl (by kernel_rfl) (by kernel_rfl) (by kernel_rfl) (by kernel_rfl) (fun _ _ _ h => h) ?_ ?_ ?_
  rotate_left 2
  · refine .inl ⟨by kernel_rfl, ?_⟩; intro wS hS; clear hS; go_simp; with_reducible rfl
  · go_simp; with_reducible rfl
  refine wpKIn_take0 sem_fun (fun _ => trivial) (v := ?_) (a' := ?_) 3 rfl (by kernel_rfl) (by kernel_rfl) (by kernel_rfl) (by kernel_rfl) (fun _ _ _ h => h) ?_ ?_ ?_
  rotate_left 2
  · refine .inl ⟨by kernel_rfl, ?_⟩; intro wS hS; clear hS; go_simp; with_reducible rfl
  · go_simp; with_reducible rfl
  refine wpKIn_take0 sem_fun (fun _ => trivial) (v := ?_) (a' := ?_) 4 rfl (by kernel_rfl) (by kernel_rfl) (by kernel_rfl) (by kernel_rfl) (fun _ _ _ h => h) ?_ ?_ ?_
  rotate_left 2
  · refine .inl ⟨by kernel_rfl, ?_⟩; intro wS hS; clear hS; go_simp; with_reducible rfl
  · go_simp; with_reducible rfl
  refine wpKIn_take0 sem_fun (fun _ => trivial) (v := ?_) (a' := ?_) 5 rfl (by kernel_rfl) (by kernel_rfl) (by kernel_rfl) (by kernel_rfl) (fun _ _ _ h => h) ?_ ?_ ?_
  rotate_left 2
  · refine .inl ⟨by kernel_rfl, ?_⟩; intro wS hS; clear hS; go_simp; with_reducible rfl
  · go_simp; with_reducible rfl
  refine wpKIn_take sem_fun (fun _ => trivial) (v := ?_) (a' := ?_) 6 rfl (by kernel_rfl) (by kernel_rfl) (by kernel_rfl) (by kernel_rfl) (by kernel_rfl) (fun _ _ _ h => h) HS.out ?_ ?_ ?_
  rotate_left 2
  · refine .inl ⟨by kernel_rfl, ?_⟩; intro wS hS; have hc := (HG.out _ hS).2.2; clear hS; go_simp; with_reducible rfl
  · go_simp; with_reducible rfl
  refine wpKIn_take sem_fun (fun _ => trivial) (v := ?_) (a' := ?_) 7 rfl (by kernel_rfl) (by kernel_rfl) (by kernel_rfl) (by kernel_rfl) (by kernel_rfl) (fun _ _ _ h => h) HS.out ?_ ?_ ?_
  rotate_left 2
  · refine .inl ⟨by kernel_rfl, ?_⟩; intro wS hS; have hc := (HG.out _ hS).2.1; clear hS; go_simp; with_reducible rfl
  · go_simp; with_reducible rfl
  refine wpKIn_take0 sem_fun (fun _ => trivial) (v := ?_) (a' := ?_) 8 rfl (by kernel_rfl) (by kernel_rfl) (by kernel_rfl) (by kernel_rfl) (fun _ _ _ h => h) ?_ ?_ ?_
  rotate_left 2
  · refine .inl ⟨by kernel_rfl, ?_⟩; intro wS hS; clear hS; go_simp; with_reducible rfl
  · go_simp; with_reducible rfl
  refine wpKIn_one 9 rfl (by kernel_rfl) (fun K hK => ?_)
  have HKK := Lib.hid hK
  clear hK
  have hy := HY.out
  unfold leafV at hy
  gi_wp2
  refine ⟨fun h => (by simp [Fence.wide] at h), (roundIn_wide HR.out).mono ?_⟩
  rintro e W3 (⟨rfl, hJ3, hb3⟩ | ⟨rfl, hJx3⟩)
  · have hc := (HP.out.on hb3 hBp).cells.2.2.2.2
    have HJ3 := Lib.hid hJ3
    clear hJ3 hb3 hy
    gi_wp2
    refine HKK.out _ _ (fun h => (by cases h)) ?_
    refine wpKIn_take0 sem_fun (fun _ => trivial) (v := ?_) (a' := ?_) 10 rfl (by kernel_rfl) (by kernel_rfl) (by kernel_rfl) (by kernel_rfl) (fun _ _ _ h => h) ?_ ?_ ?_
    rotate_left 2
    · refine .inl ⟨by kernel_rfl, ?_⟩; intro wS hS; clear hS; go_simp; with_reducible rfl
    · go_simp; with_reducible rfl
    refine wpKIn_take0 sem_fun (fun _ => trivial) (v := ?_) (a' := ?_) 11 rfl (by kernel_rfl) (by kernel_rfl) (by kernel_rfl) (by kernel_rfl) (fun _ _ _ h => h) ?_ ?_ ?_
    rotate_left 2
    · refine .inl ⟨by kernel_rfl, ?_⟩; intro wS hS; clear hS; go_simp; with_reducible rfl
    · go_simp; with_reducible rfl
    refine wpKIn_take0 sem_fun (fun _ => trivial) (v := ?_) (a' := ?_) 12 rfl (by kernel_rfl) (by kernel_rfl) (by kernel_rfl) (by kernel_rfl) (fun _ _ _ h => h) ?_ ?_ ?_
    rotate_left 2
    · refine .inl ⟨by kernel_rfl, ?_⟩; intro wS hS; clear hS; go_simp; with_reducible rfl
    · go_simp; with_reducible rfl
    refine wpKIn_take0 sem_fun (fun _ => trivial) (v := ?_) (a' := ?_) 13 rfl (by kernel_rfl) (by kernel_rfl) (by kernel_rfl) (by kernel_rfl) (fun _ _ _ h => h) ?_ ?_ ?_
    rotate_left 2
    · refine .inl ⟨by kernel_rfl, ?_⟩; intro wS hS; clear hS; go_simp; with_reducible rfl
    · go_simp; with_reducible rfl
    refine wpKIn_take0 sem_fun (fun _ => trivial) (v := ?_) (a' := ?_) 15 rfl (by kernel_rfl) (by kernel_rfl) (by kernel_rfl) (by kernel_rfl) (fun _ _ _ h => h) ?_ ?_ ?_
    rotate_left 2
    · refine .inl ⟨by kernel_rfl, ?_⟩; intro wS hS; clear hS; go_simp; with_reducible rfl
    · go_simp; with_reducible rfl
    refine wpKIn_one 14 rfl (by kernel_rfl) (fun K hK => ?_)
    have HKK := Lib.hid hK
    clear hK
    gi_wp2
    refine HKK.out _ _ (fun h => (by cases h)) ?_
    refine wpKIn_one 16 rfl (by kernel_rfl) (fun K hK => ?_)
    have HKK := Lib.hid hK
    clear hK
    gi_wp2
    refine ⟨trivial, fun h => (by simp [Fence.wide] at h), (each_nil _ _ _).mono ?_⟩
    rintro e w' ⟨rfl, rfl⟩
    gi_wp2
    refine HKK.out _ _ (fun h => (by cases h)) ?_
    refine wpKIn_take0 sem_fun (fun _ => trivial) (v := ?_) (a' := ?_) 17 rfl (by kernel_rfl) (by kernel_rfl) (by kernel_rfl) (by kernel_rfl) (fun _ _ _ h => h) ?_ ?_ ?_
    rotate_left 2
    · refine .inl ⟨by kernel_rfl, ?_⟩; intro wS hS; clear hS; go_simp; with_reducible rfl
    · go_simp; with_reducible rfl
    refine wpKIn_take0 sem_fun (fun _ => trivial) (v := ?_) (a' := ?_) 18 rfl (by kernel_rfl) (by kernel_rfl) (by kernel_rfl) (by kernel_rfl) (fun _ _ _ h => h) ?_ ?_ ?_
    rotate_left 2
    · refine .inl ⟨by kernel_rfl, ?_⟩; intro wS hS; clear hS; go_simp; with_reducible rfl
    · go_simp; with_reducible rfl
    refine wpKIn_end (by kernel_rfl) ?_ _
    gi_wp2
    go_ret
    exact ⟨⟨_, rfl⟩, .inl HJ3.out⟩
  · have HJ3 := Lib.hid hJx3
    clear hJx3 hy
    gi_wp2
    refine HKK.out _ _ (fun h => (by cases h)) ?_
    refine wpKIn_take0 sem_fun (fun _ => trivial) (v := ?_) (a' := ?_) 10 rfl (by kernel_rfl) (by kernel_rfl) (by kernel_rfl) (by kernel_rfl) (fun _ _ _ h => h) ?_ ?_ ?_
    rotate_left 2
    · refine .inl ⟨by kernel_rfl, ?_⟩; intro wS hS; clear hS; go_simp; with_reducible rfl
    · go_simp; with_reducible rfl
    refine wpKIn_take0 sem_fun (fun _ => trivial) (v := undef) (a' := ?_) 11 rfl (by kernel_rfl) (by kernel_rfl) (by kernel_rfl) (by kernel_rfl) (fun _ _ _ h => h) (.inr ⟨by kernel_rfl, rfl⟩) ?_ ?_
    rotate_left 1
    · go_simp; with_reducible rfl
    refine wpKIn_take0 sem_fun (fun _ => trivial) (v := undef) (a' := ?_) 12 rfl (by kernel_rfl) (by kernel_rfl) (by kernel_rfl) (by kernel_rfl) (fun _ _ _ h => h) (.inr ⟨by kernel_rfl, rfl⟩) ?_ ?_
    rotate_left 1
    · go_simp; with_reducible rfl
    refine wpKIn_take0 sem_fun (fun _ => trivial) (v := undef) (a' := ?_) 13 rfl (by kernel_rfl) (by kernel_rfl) (by kernel_rfl) (by kernel_rfl) (fun _ _ _ h => h) (.inr ⟨by kernel_rfl, rfl⟩) ?_ ?_
    rotate_left 1
    · go_simp; with_reducible rfl
    refine wpKIn_take0 sem_fun (fun _ => trivial) (v := undef) (a' := ?_) 14 rfl (by kernel_rfl) (by kernel_rfl) (by kernel_rfl) (by kernel_rfl) (fun _ _ _ h => h) (.inr ⟨by kernel_rfl, rfl⟩) ?_ ?_
    rotate_left 1
    · go_simp; with_reducible rfl
    refine wpKIn_take0 sem_fun (fun _ => trivial) (v := undef) (a' := ?_) 15 rfl (by kernel_rfl) (by kernel_rfl) (by kernel_rfl) (by kernel_rfl) (fun _ _ _ h => h) (.inr ⟨by kernel_rfl, rfl⟩) ?_ ?_
    rotate_left 1
    · go_simp; with_reducible rfl
    refine wpKIn_take0 sem_fun (fun _ => trivial) (v := undef) (a' := ?_) 16 rfl (by kernel_rfl) (by kernel_rfl) (by kernel_rfl) (by kernel_rfl) (fun _ _ _ h => h) (.inr ⟨by kernel_rfl, rfl⟩) ?_ ?_
    rotate_left 1
    · go_simp; with_reducible rfl
    refine wpKIn_take0 sem_fun (fun _ => trivial) (v := ?_) (a' := ?_) 17 rfl (by kernel_rfl) (by kernel_rfl) (by kernel_rfl) (by kernel_rfl) (fun _ _ _ h => h) ?_ ?_ ?_
    rotate_left 2
    · refine .inl ⟨by kernel_rfl, ?_⟩; intro wS hS; clear hS; go_simp; with_reducible rfl
    · go_simp; with_reducible rfl
    refine wpKIn_take0 sem_fun (fun _ => trivial) (v := ?_) (a' := ?_) 18 rfl (by kernel_rfl) (by kernel_rfl) (by kernel_rfl) (by kernel_rfl) (fun _ _ _ h => h) ?_ ?_ ?_
    rotate_left 2
    · refine .inl ⟨by kernel_rfl, ?_⟩; intro wS hS; clear hS; go_simp; with_reducible rfl
    · go_simp; with_reducible rfl
    refine wpKIn_end (by kernel_rfl) ?_ _
    gi_wp2
    go_ret
    exact ⟨⟨_, rfl⟩, .inr HJ3.out⟩
set_option maxRecDepth 100000 in
theorem steps1_leaf (n n₀ Bs Bp : Nat) (s : ByteArray) (w0 : World) (hBs : Bs < n₀) (hBp : Bp < n₀) (hz : n₀ ≤ w0.heap.size) (hp : LeafAt w0 s Bp) (hs : w0.heap[Bs]? = some (.cells #[.pointer (some ⟨Bp, 0, none⟩)] 133 (0, 0))) :
    SeqStopsK Fence.wide n Tryz.prog 105 #[.pointer (some ⟨Bs, 0, none⟩)] (fun (_ : Unit) => #[leafV Bp]) (Below n₀) (fun ys => ys = [()]) (fun pre => pre = [()]) 1 w0 := fun l J Jx W hW hJa _ hY h0 => by
  have hzW : n₀ ≤ W.heap.size := Nat.le_trans hz hW.size
  have hpW : LeafAt W s Bp := hp.on (hW.mono hz) hBp
  have hsW : W.heap[Bs]? = some (.cells #[.pointer (some ⟨Bp, 0, none⟩)] 133 (0, 0)) := ((hW.mono hz).block _ hBs).trans hs
  have hc : W.cell? ⟨Bs, 0, none⟩ = some (.pointer (some ⟨Bp, 0, none⟩)) := by rw [cell_of_row W Bs _ _ _ _ hsW]; rfl
  have HL := Lib.hid (pat_leaf (n - 1) (n - 1) l n₀ Bp s hBp J Jx W hzW hJa hY hpW h0)
  clear hY hJa h0 hW hp hs hpW hsW
  refine callsIn_of_wp Tryz.func105 rfl trivial ?_ rfl
  simp only [Tryz.ntmps105, List.size_toArray, List.length_cons, List.length_nil, Nat.reduceAdd, Nat.reduceSub, Array.replicate_succ, Array.replicate_zero, List.push_toArray, List.append_toArray, List.nil_append, List.cons_append]
  gi_wp2
  refine ⟨trivial, fun h => (by simp [Fence.wide] at h), HL.out.mono ?_⟩
  rintro e W' ⟨⟨v, rfl⟩, hj⟩
  gi_wp2
  go_end0
  exact ⟨⟨_, rfl⟩, hj.elim (fun h => .inl ⟨_, rfl, h⟩) fun h => .inr ⟨_, rfl, h⟩⟩
theorem steps_any (n : Nat) (p : Option Addr) (w : World) : CallsIn Fence.wide n Tryz.prog 96 #[.pointer p] w fun e w' => e = .returned (.func (.func 105) #[] #[.pointer (some ⟨w.heap.size, 0, none⟩)]) ∧ w' = w.alloc (.cells #[.pointer p] 133) := by
  refine callsIn_wide.2 ?_
  go_enter Tryz.func96, Tryz.ntmps96
  go_wp2
  go_ret
  exact ⟨rfl, rfl⟩
/-! ### Steps -/
theorem ta_fun (v : Value) (w : World) : (Instr.typeAssert (.iface 133 v) 20 164 true).run Tryz.prog w = .ok (.tuple #[.pointer none, .bool false]) w := by kernel_rfl
theorem ta_con (v : Value) (w : World) : (Instr.typeAssert (.iface 133 v) 20 165 true).run Tryz.prog w = .ok (.tuple #[.pointer none, .bool false]) w := by kernel_rfl
theorem ta_dec (v : Value) (w : World) : (Instr.typeAssert (.iface 133 v) 20 166 true).run Tryz.prog w = .ok (.tuple #[.pointer none, .bool false]) w := by kernel_rfl
theorem ta_exp (v : Value) (w : World) : (Instr.typeAssert (.iface 133 v) 20 170 true).run Tryz.prog w = .ok (.tuple #[.pointer none, .bool false]) w := by kernel_rfl
theorem ta_pat (v : Value) (w : World) : (Instr.typeAssert (.iface 133 v) 20 133 true).run Tryz.prog w = .ok (.tuple #[v, .bool true]) w := by kernel_rfl
theorem isNode_leaf (Bp : Nat) (w : World) : Calls Tryz.prog 103 #[leafV Bp] w fun e w' => e = .returned (.bool true) ∧ Below w.heap.size w w' := by
  have t1 := ta_fun
  have t2 := ta_con
  unfold leafV
  go_enter Tryz.func103, Tryz.ntmps103
  go_wp2
  go_ret
  exact ⟨rfl, below_new _ _⟩
theorem unused_leaf (s : ByteArray) (w : World) : Calls Tryz.prog 148 #[.agg (patRow s)] w fun e w' => e = .returned (.bool false) ∧ Below w.heap.size w w' := by
  unfold patRow
  go_enter Tryz.func148, Tryz.ntmps148
  go_wp2
  go_ret
  exact ⟨rfl, below_new _ _⟩
theorem kids_leaf (w : World) : Calls Tryz.prog 149 #[.int .i64 2] w fun e w' => e = .returned (.tuple #[.int .i64 0, .int .i64 0]) ∧ w = w' := by
  go_enter Tryz.func149, Tryz.ntmps149
  go_wp2
  go_ret2
  exact ⟨rfl, rfl⟩
theorem patSize (s : ByteArray) : (Tryz.prog.info? 95).map (·.size) = some (patRow s).size := by kernel_rfl
/-- What is wrong with a variable of this name. -/
def leafBad (s : ByteArray) : Value := if lowB s then .tuple #[.int .i64 0, .string ⟨#[]⟩] else .tuple #[.int .i64 8, .string s]
set_option maxHeartbeats 1000000 in
theorem patFault_leaf (Bp : Nat) (s : ByteArray) (hs : s.size ≤ 1048576) (w : World) (h : LeafAt w s Bp) : Calls Tryz.prog 121 #[.pointer (some ⟨Bp, 0, none⟩)] w fun e w' => e = .returned (leafBad s) ∧ Below w.heap.size w w' := by
  have hlt : Bp < w.heap.size := (Array.getElem?_eq_some_iff.1 (show w.heap[Bp]? = _ from h)).1
  have HL := Lib.hid (fun W => isLower_any s hs W)
  have HD : Hid (leafBad s = if lowB s then .tuple #[.int .i64 0, .string ⟨#[]⟩] else .tuple #[.int .i64 8, .string s]) := Lib.hid rfl
  generalize leafBad s = D at *
  generalize lowB s = b at *
  go_enter Tryz.func121, Tryz.ntmps121
  go_wp2_with (refine wpList_load_row rfl 95 _ rfl Bp rfl 95 (patRow s) (0, 0) _ h Tryz.underlying95 rfl (patSize s) ?_)
  refine (unused_leaf s w).mono ?_
  rintro e w1 ⟨rfl, hb⟩
  have h1 := h.on hb hlt
  obtain ⟨c0, c1, c2, c3, c4⟩ := h1.cells
  have HB := Lib.hid hb
  have H1 := Lib.hid h1
  clear hb h h1
  cases b
  · go_wp2_with (go_at_call 118; refine (HL.out _).mono ?_; rintro e w' ⟨rfl, rfl⟩)

    refine wp_region_K (fun w' => Below w1.heap.size w1 w') (fun j => true) (by kernel_rfl) ?_
    have HS := Lib.hid (below_drew1 (Below.refl w1.heap.size w1))
    have HX : Hid (∀ W', Below w1.heap.size w1 W' → W'.cell? ⟨Bp, 2, none⟩ = some (.string s)) := Lib.hid fun W' k => (H1.out.on k (Array.getElem?_eq_some_iff.1 (show w1.heap[Bp]? = _ from H1.out)).1).cells.2.2.1
    refine wpK_take0 (v := ?_) (a' := ?_) 0 rfl (by kernel_rfl) (by kernel_rfl) (by kernel_rfl) (by kernel_rfl) (fun _ _ _ h => h) ?_ ?_ ?_
    rotate_left 2
    · refine .inl ⟨by kernel_rfl, ?_⟩; intro wS hS; clear hS; go_simp; with_reducible rfl
    · go_simp; with_reducible rfl
    refine wpK_take0 (v := ?_) (a' := ?_) 1 rfl (by kernel_rfl) (by kernel_rfl) (by kernel_rfl) (by kernel_rfl) (fun _ _ _ h => h) ?_ ?_ ?_
    rotate_left 2
    · refine .inl ⟨by kernel_rfl, ?_⟩; intro wS hS; clear hS; go_simp; with_reducible rfl
    · go_simp; with_reducible rfl
    refine wpK_take0 (v := ?_) (a' := ?_) 2 rfl (by kernel_rfl) (by kernel_rfl) (by kernel_rfl) (by kernel_rfl) (fun _ _ _ h => h) ?_ ?_ ?_
    rotate_left 2
    · refine .inl ⟨by kernel_rfl, ?_⟩; intro wS hS; clear hS; go_simp; with_reducible rfl
    · go_simp; with_reducible rfl
    refine wpK_take (v := ?_) (a' := ?_) 3 rfl (by kernel_rfl) (by kernel_rfl) (by kernel_rfl) (by kernel_rfl) (by kernel_rfl) (fun _ _ _ h => h) HS.out ?_ ?_ ?_
    rotate_left 2
    · refine .inl ⟨by kernel_rfl, ?_⟩; intro wS hS; have hc := HX.out _ hS; clear hS; go_simp; with_reducible rfl
    · go_simp; with_reducible rfl
    refine wpK_take0 (v := ?_) (a' := ?_) 4 rfl (by kernel_rfl) (by kernel_rfl) (by kernel_rfl) (by kernel_rfl) (fun _ _ _ h => h) ?_ ?_ ?_
    rotate_left 2
    · refine .inl ⟨by kernel_rfl, ?_⟩; intro wS hS; clear hS; go_simp; with_reducible rfl
    · go_simp; with_reducible rfl
    refine wpK_take0 (v := ?_) (a' := ?_) 5 rfl (by kernel_rfl) (by kernel_rfl) (by kernel_rfl) (by kernel_rfl) (fun _ _ _ h => h) ?_ ?_ ?_
    rotate_left 2
    · refine .inl ⟨by kernel_rfl, ?_⟩; intro wS hS; clear hS; go_simp; with_reducible rfl
    · go_simp; with_reducible rfl
    refine wpK_end (by kernel_rfl) ?_ _
    go_wp2
    go_ret2
    exact ⟨by rw [HD.out]; rfl, below_then HB.out HS.out⟩
  · go_wp2_with (first | (go_at_call 118; refine (HL.out _).mono ?_; rintro e w' ⟨rfl, rfl⟩) | (go_at_call 149; refine (kids_leaf _).mono ?_; rintro e w' ⟨rfl, rfl⟩))
    go_ret2
    exact ⟨by rw [HD.out]; rfl, HB.out⟩
theorem fault_leaf (Bp : Nat) (s : ByteArray) (hs : s.size ≤ 1048576) (w : World) (h : LeafAt w s Bp) : Calls Tryz.prog 104 #[leafV Bp] w fun e w' => e = .returned (leafBad s) ∧ Below w.heap.size w w' := by
  have hlt : Bp < w.heap.size := (Array.getElem?_eq_some_iff.1 (show w.heap[Bp]? = _ from h)).1
  have t1 := ta_dec
  have t2 := ta_fun
  have t3 := ta_con
  have t4 := ta_exp
  have t5 := ta_pat
  have HL : Hid (∀ W, Below w.heap.size w W → LeafAt W s Bp) := Lib.hid fun W k => h.on k hlt
  have HB : Hid (leafBad s = if lowB s then .tuple #[.int .i64 0, .string ⟨#[]⟩] else .tuple #[.int .i64 8, .string s]) := Lib.hid rfl
  have HF := Lib.hid (patFault_leaf Bp s hs)
  generalize leafBad s = D at *
  unfold leafV
  clear h
  cases hl : lowB s
  all_goals
    rw [hl] at HB
    simp only [if_true, if_false, Bool.false_eq_true] at HB
    obtain ⟨D', hD⟩ : ∃ D', D' = D := ⟨_, rfl⟩
    rw [← hD] at HF ⊢
    rw [← hD] at HB
    have hD' := HB.out
    subst hD'
    clear hD HB hl
    go_enter Tryz.func104, Tryz.ntmps104
    go_wp2_with (go_at_call 121; refine (HF.out _ (HL.out _ (below_new _ _))).mono ?_; rintro e w1 ⟨rfl, hb1⟩; have HB1 := Lib.hid hb1; clear hb1)
    go_ret2
    exact ⟨rfl, below_then (below_new _ _) HB1.out⟩
def badV (s : ByteArray) : Value := if lowB s then .agg #[.int .i64 0, .int .i64 0, .string ⟨#[]⟩] else .agg #[.int .i64 8, .int .i64 0, .string s]
theorem blk_own {W W' : World} {row : Option Nat} {B b : Nat} {cs : Array Value} {t : TypeId} {fr : Nat × Nat} (h : W.heap[b]? = some (.cells cs t fr)) (hg : W.grownBy W' row) (hr : ∀ r, row = some r → B ≤ r ∧ ∃ o : Obj, W.heap[r]? = some o ∧ o.isCells = false) : W'.heap[b]? = some (.cells cs t fr) :=
  (hg.block b (Array.getElem?_eq_some_iff.1 h).1 fun e => by obtain ⟨_, o, ho, hc⟩ := hr b e.symm; rw [h] at ho; cases ho; cases hc).trans h
theorem keepsFrom_below {B : Nat} {W W' : World} (h : Below W.heap.size W W') : KeepsFrom B W W' := ⟨h.size, fun k o _ hk _ => (h.block k (Array.getElem?_eq_some_iff.1 hk).1).trans hk⟩
theorem block_free0 {W : World} {B j : Nat} {cs : Array Value} {t : TypeId} (h : W.heap[B]? = some (.cells cs t (0, 0))) : W.frozen? ⟨B, j, none⟩ = false := by simp [World.frozen?, h]
theorem keeps3 (W : World) (B : Nat) (x y z : Value) : KeepsOthers W (((W.setCell ⟨B, 0, none⟩ x).setCell ⟨B, 1, none⟩ y).setCell ⟨B, 2, none⟩ z) :=
  (KeepsOthers.setCell _ _ _).trans ((KeepsOthers.setCell _ _ _).trans (KeepsOthers.setCell _ _ _))
theorem below3 {w W : World} (h : Below w.heap.size w W) (x y z : Value) : Below w.heap.size w (((W.setCell ⟨w.heap.size, 0, none⟩ x).setCell ⟨w.heap.size, 1, none⟩ y).setCell ⟨w.heap.size, 2, none⟩ z) :=
  ((h.setCell (p := ⟨w.heap.size, 0, none⟩) (Nat.le_refl _) _).setCell (p := ⟨w.heap.size, 1, none⟩) (Nat.le_refl _) _).setCell (p := ⟨w.heap.size, 2, none⟩) (Nat.le_refl _) _
theorem set3 {W : World} {g : Nat} {t : TypeId} {fr : Nat × Nat} {a b c x y z : Value} (h : W.heap[g]? = some (.cells #[a, b, c] t fr)) :
    (((W.setCell ⟨g, 0, none⟩ x).setCell ⟨g, 1, none⟩ y).setCell ⟨g, 2, none⟩ z).heap[g]? = some (.cells #[x, y, z] t fr) := by
  simp [World.setCell, Array.getElem?_modify, h]
/-- The function's end: two marks, and the result's block. -/
theorem marks_end {n D D2 : Nat} {w W : World} {tmps : Array Value} {cs : Array Value} {v : Value} (hD : D < D2) (h2 : W.heap[D2]? = some (.deferred (some []))) (h1 : W.heap[D]? = some (.deferred (some []))) (hw1 : w.heap.size ≤ D) (hne : D ≠ D2)
    (ht : tmps.getD 2 undef = .pointer (some ⟨w.heap.size, 0, none⟩)) (hsz : cs.size = 3) (hr : W.heap[w.heap.size]? = some (.cells cs 120 (0, 0))) (hb : Below w.heap.size w W) (hv : v = .agg cs) :
    bodyPostM Fence.wide n Tryz.prog Tryz.f95 (fun e W' => e = .returned v ∧ Below w.heap.size w W') .ret { tmps := tmps, defers := [{ target := .collected D2, args := #[] }, { target := .collected D, args := #[] }] } W := by
  have hlt2 := (Array.getElem?_eq_some_iff.1 h2).1
  have hlt1 := (Array.getElem?_eq_some_iff.1 h1).1
  have h1' : (W.putObj D2 (.deferred none)).heap[D]? = some (.deferred (some [])) := ((grownBy_putObj' W D2 (.deferred none)).block D hlt1 (fun e => hne (by cases e; rfl))).trans h1
  have hres : ((W.putObj D2 (.deferred none)).putObj D (.deferred none)).heap[w.heap.size]? = some (.cells cs 120 (0, 0)) := by
    refine ((grownBy_putObj' _ D (.deferred none)).block _ ?_ (fun e => ?_)).trans (((grownBy_putObj' W D2 (.deferred none)).block _ ?_ (fun e => ?_)).trans hr)
    · exact Nat.lt_of_lt_of_le (Array.getElem?_eq_some_iff.1 hr).1 (grownBy_putObj' W D2 (.deferred none)).size
    · cases e; rw [hr] at h1; cases h1
    · exact (Array.getElem?_eq_some_iff.1 hr).1
    · cases e; rw [hr] at h2; cases h2
  refine ⟨by simp, .inl ⟨_, _, rfl, run_takeDeferred h2, by simp, .inl ⟨_, _, rfl, run_takeDeferred h1', ?_⟩⟩⟩
  refine ⟨.agg cs, results_cell_row rfl tmps _ w.heap.size 120 cs (0, 0) _ ht hres Tryz.underlying120 rfl (by rw [hsz]; kernel_rfl), ?_⟩
  exact ⟨by rw [hv], (hb.trans (belowK_b (w := w) (Nat.le_refl _) _ D2 _ _ (by omega) h2 rfl rfl)).trans (belowK_b (w := w) (Nat.le_refl _) _ D _ _ (by omega) h1' rfl rfl)⟩
/-- Where firstFault stands: its result, the nodes counted, the depth, and a box of its caller's. -/
structure Fst (w : World) (s : ByteArray) (Bs Bp k : Nat) (W : World) : Prop where
  res : W.heap[w.heap.size]? = some (.cells #[.int .i64 0, .int .i64 0, .string ⟨#[]⟩] 120 (0, 0))
  size : W.heap[w.heap.size + 1]? = some (.cells #[.int .i64 k] 3 (0, 0))
  deep : W.heap[w.heap.size + 1 + 1]? = some (.cells #[.int .i64 k] 3 (0, 0))
  leaf : LeafAt W s Bp
  box : W.heap[Bs]? = some (.cells #[.pointer (some ⟨Bp, 0, none⟩)] 133 (0, 0))
  bel : Below w.heap.size w W
theorem Fst.own {w : World} {s : ByteArray} {Bs Bp B : Nat} (hB : w.heap.size ≤ B) : OwnFrom B (fun (pre : List Unit) W => Fst w s Bs Bp pre.length W) := fun pre X Y row hs hg hr =>
  ⟨blk_own hs.res hg hr, blk_own hs.size hg hr, blk_own hs.deep hg hr, blk_own hs.leaf hg hr, blk_own hs.box hg hr, hs.bel.grown hg hs.bel.size fun k e => Nat.le_trans hB (hr k e).1⟩
theorem row_keep {W W' : World} {b : Nat} {o : Obj} (h : W.heap[b]? = some o) (hb : Below W.heap.size W W') : W'.heap[b]? = some o := (hb.block b (Array.getElem?_eq_some_iff.1 h).1).trans h
theorem Fst.own1 {w X Y : World} {s : ByteArray} {Bs Bp B k : Nat} {row : Option Nat} (hB : w.heap.size ≤ B) (hs : Fst w s Bs Bp k X) (hg : X.grownBy Y row) (hr : ∀ r, row = some r → B ≤ r ∧ ∃ o : Obj, X.heap[r]? = some o ∧ o.isCells = false) : Fst w s Bs Bp k Y :=
  ⟨blk_own hs.res hg hr, blk_own hs.size hg hr, blk_own hs.deep hg hr, blk_own hs.leaf hg hr, blk_own hs.box hg hr, hs.bel.grown hg hs.bel.size fun k e => Nat.le_trans hB (hr k e).1⟩
theorem Fst.on {w W W' : World} {s : ByteArray} {Bs Bp k : Nat} (h : Fst w s Bs Bp k W) (hb : Below W.heap.size W W') : Fst w s Bs Bp k W' :=
  ⟨row_keep h.res hb, row_keep h.size hb, row_keep h.deep hb, row_keep h.leaf hb, row_keep h.box hb, h.bel.trans (hb.mono h.bel.size)⟩
theorem Fst.bump {w W : World} {s : ByteArray} {Bs Bp : Nat} (h : Fst w s Bs Bp 0 W) : Fst w s Bs Bp 1 ((W.drew.setCell ⟨w.heap.size + 1, 0, none⟩ (.int .i64 1)).setCell ⟨w.heap.size + 1 + 1, 0, none⟩ (.int .i64 1)) := by
  have hz := h.bel.size
  have hp := (Array.getElem?_eq_some_iff.1 (show W.heap[Bp]? = _ from h.leaf)).1
  have hs := (Array.getElem?_eq_some_iff.1 h.size).1
  have ho : ∀ b, b ≠ w.heap.size + 1 → b ≠ w.heap.size + 1 + 1 → ((W.drew.setCell ⟨w.heap.size + 1, 0, none⟩ (.int .i64 1)).setCell ⟨w.heap.size + 1 + 1, 0, none⟩ (.int .i64 1)).heap[b]? = W.heap[b]? := fun b h1 h2 =>
    (Below.heap_setCell _ _ _ b h2).trans (Below.heap_setCell _ _ _ b h1)
  have b1 : Boxed W.drew (w.heap.size + 1) 3 (.int .i64 0) := h.size
  have b2 : Boxed W.drew (w.heap.size + 1 + 1) 3 (.int .i64 0) := h.deep
  refine ⟨(ho _ (by omega) (by omega)).trans h.res, (b1.set (.int .i64 1)).other (by omega) _, (b2.other (by omega) (.int .i64 1)).set _, ?_, ?_, ((below_drew1 h.bel).setCell (p := ⟨w.heap.size + 1, 0, none⟩) (by simp) _).setCell (p := ⟨w.heap.size + 1 + 1, 0, none⟩) (by simp; omega) _⟩
  · refine (ho Bp (fun e => ?_) (fun e => ?_)).trans h.leaf
    · have h1 := h.leaf; have h2 := h.size; rw [← e] at h2; rw [LeafAt, h2] at h1; simp [patRow] at h1
    · have h1 := h.leaf; have h2 := h.deep; rw [← e] at h2; rw [LeafAt, h2] at h1; simp [patRow] at h1
  · refine (ho Bs (fun e => ?_) (fun e => ?_)).trans h.box
    · have h1 := h.box; have h2 := h.size; rw [← e] at h2; rw [h2] at h1; simp at h1
    · have h1 := h.box; have h2 := h.deep; rw [← e] at h2; rw [h2] at h1; simp at h1
def stepBox (W : World) (Bp Bx : Nat) : Prop := W.heap[Bx]? = some (.cells #[.iface 133 (.pointer (some ⟨Bp, 0, none⟩)), .int .i64 0, .int .i64 1, .bool false] 146 (0, 0))
theorem stepBox.cells {W : World} {Bp Bx : Nat} (h : stepBox W Bp Bx) : W.cell? ⟨Bx, 0, none⟩ = some (.iface 133 (.pointer (some ⟨Bp, 0, none⟩))) ∧ W.cell? ⟨Bx, 1, none⟩ = some (.int .i64 0) ∧ W.cell? ⟨Bx, 2, none⟩ = some (.int .i64 1) ∧ W.cell? ⟨Bx, 3, none⟩ = some (.bool false) := by
  refine ⟨?_, ?_, ?_, ?_⟩ <;> rw [cell_of_row W Bx _ _ _ _ h] <;> rfl
theorem stepSize (x y z u : Value) : (Tryz.prog.info? 146).map (·.size) = some (#[x, y, z, u] : Array Value).size := by kernel_rfl
theorem badSize (x y z : Value) : (Tryz.prog.info? 120).map (·.size) = some (#[x, y, z] : Array Value).size := by kernel_rfl
theorem deferred_own {W W' : World} {row : Option Nat} {B D : Nat} {o : Obj} (hD : D < B) (h : W.heap[D]? = some o) (hg : W.grownBy W' row) (hr : ∀ r, row = some r → B ≤ r ∧ ∃ o : Obj, W.heap[r]? = some o ∧ o.isCells = false) : W'.heap[D]? = some o :=
  (hg.block D (Array.getElem?_eq_some_iff.1 h).1 fun e => by have := (hr D e.symm).1; omega).trans h

set_option maxRecDepth 100000 in
set_option maxHeartbeats 8000000 in
theorem first_leaf (n Bs Bp : Nat) (s : ByteArray) (hs : s.size ≤ 1048576) (w : World) (hBs : Bs < w.heap.size) (hBp : Bp < w.heap.size) (hp : LeafAt w s Bp) (hb : w.heap[Bs]? = some (.cells #[.pointer (some ⟨Bp, 0, none⟩)] 133 (0, 0))) (hn : 1 ≤ n) :
    CallsIn Fence.wide n Tryz.prog 95 #[.func (.func 105) #[] #[.pointer (some ⟨Bs, 0, none⟩)]] w fun e W' => e = .returned (badV s) ∧ Below w.heap.size w W' := by
  have FL := Lib.hid (fun W => fault_leaf Bp s hs W)
  refine callsIn_of_wp_marks Tryz.func95 rfl trivial ?_ rfl
  simp only [Tryz.ntmps95, List.size_toArray, List.length_cons, List.length_nil, Nat.reduceAdd, Nat.reduceSub, Array.replicate_succ, Array.replicate_zero, List.push_toArray, List.append_toArray, List.nil_append, List.cons_append]
  gi_wp2
  obtain ⟨W0, hW0⟩ : ∃ W0, (((w.alloc (.cells #[.int .i64 0, .int .i64 0, .string ⟨#[]⟩] 120)).alloc (.cells #[.int .i64 0] 3)).alloc (.cells #[.int .i64 0] 3)) = W0 := ⟨_, rfl⟩
  have hF : Fst w s Bs Bp 0 W0 := by
    have hb0 : Below w.heap.size w W0 := by rw [← hW0]; exact (((Below.refl _ _).alloc (Nat.le_refl _) _).alloc (by simp) _).alloc (by simp; omega) _
    refine ⟨?_, ?_, ?_, hp.on hb0 hBp, (hb0.block _ hBs).trans hb, hb0⟩
    · rw [← hW0]; exact (Below.heap_alloc _ _ _ (by simp; omega)).trans ((Below.heap_alloc _ _ _ (by simp)).trans (heap_alloc_new _ _))
    · rw [← hW0]; refine (Below.heap_alloc _ _ _ (by simp)).trans ?_; have := heap_alloc_new (w.alloc (.cells #[.int .i64 0, .int .i64 0, .string ⟨#[]⟩] 120)) (.cells #[.int .i64 0] 3); rwa [World.size_alloc] at this
    · rw [← hW0]; have := heap_alloc_new ((w.alloc (.cells #[.int .i64 0, .int .i64 0, .string ⟨#[]⟩] 120)).alloc (.cells #[.int .i64 0] 3)) (.cells #[.int .i64 0] 3); rwa [World.size_alloc, World.size_alloc] at this
  rw [hW0]
  clear hW0 hp hb
  have hz0 := hF.bel.size
  refine wpIn_rangeFunc_ownH rfl hn (gf := 105) (lb := #[.pointer (some ⟨Bs, 0, none⟩)]) rfl trivial (enters_of Tryz.func105 (by kernel_rfl) rfl)
    (steps1_leaf (n - 1) w.heap.size Bs Bp s W0 hBs hBp hz0 hF.leaf hF.box) belowK_t (belowK_b hz0) (Below.refl _ _) (fun _ => rfl)
    (fun pre W => Fst w s Bs Bp pre.length W) (fun c pre W => False) (Fst.own hz0) (fun c _ _ _ _ h => h.elim) hF
    (fun x a' W => ∃ Bx, w.heap.size + 3 ≤ Bx ∧ stepBox W Bp Bx ∧ a' = { tmps := #[.func (.func 105) #[] #[.pointer (some ⟨Bs, 0, none⟩)], undef, .pointer (some ⟨w.heap.size, 0, none⟩), .pointer (some ⟨w.heap.size + 1, 0, none⟩), .pointer (some ⟨w.heap.size + 1 + 1, 0, none⟩), .pointer (some ⟨Bx, 0, none⟩), undef, undef, undef, .func (.func 105) #[] #[.pointer (some ⟨Bs, 0, none⟩)], leafV Bp, undef, undef, undef, undef, undef, undef, undef, undef, undef, undef, undef, undef, undef, undef, undef, undef, undef, undef, undef, undef, undef, undef, undef, undef, undef, undef, undef, undef, undef, undef], defers := [] })
    (fun x a' _ X Y row hs hg hr => by obtain ⟨Bx, h1, h2, h3⟩ := hs; exact ⟨Bx, h1, blk_own h2 hg hr, h3⟩) ?assign ?body ?done ?stop
  case assign =>
    rintro l pre x W K hi hK
    have HI := Lib.hid hi
    have hz : w.heap.size + 3 ≤ W.heap.size := by have := (Array.getElem?_eq_some_iff.1 hi.deep).1; omega
    clear hi
    unfold leafV
    gi_wp2
    exact hK _ _ ((KeepsOthers.alloc _ _).from _) ((Below.refl _ W).alloc (by omega) _) (HI.out.on (below_new _ _)) ⟨W.heap.size, hz, heap_alloc_new _ _, rfl⟩
  case body =>
    rintro l pre x a' W hl hrec hi ⟨Bx, hBx, hbx, rfl⟩ hlt
    obtain rfl : pre = [] := by cases pre with | nil => rfl | cons a b => simp at hlt
    have HI := Lib.hid hi
    have HX := Lib.hid hbx
    have HX1 : Bx < W.heap.size := (Array.getElem?_eq_some_iff.1 (show W.heap[Bx]? = _ from hbx)).1
    obtain ⟨x0, x1, x2, x3⟩ := stepBox.cells hbx
    clear hi hbx hlt hrec
    gi_wp2
    refine ⟨trivial, fun h => (by simp [Fence.wide] at h), (CallsIn.inRound l (callsIn_wide.2 (isNode_leaf Bp _))).mono ?_⟩
    rintro e W1 ⟨rfl, hb1⟩
    have hz1 := hb1.size
    have HI1 := Lib.hid (HI.out.on hb1)
    have HB1 := Lib.hid hb1
    have HX := Lib.hid (row_keep HX.out hb1)
    clear hb1 x0 x1 x2 x3
    gi_wp2
    have HC : Hid (∀ W', Below W1.heap.size W1 W' → W'.cell? ⟨w.heap.size + 1, 0, none⟩ = some (.int .i64 0) ∧ W'.cell? ⟨w.heap.size + 1 + 1, 0, none⟩ = some (.int .i64 0) ∧ W'.cell? ⟨Bx, 2, none⟩ = some (.int .i64 1)) := Lib.hid fun W' k =>
      ⟨by rw [cell_of_row W' _ _ _ _ _ (HI1.out.on k).size]; rfl, by rw [cell_of_row W' _ _ _ _ _ (HI1.out.on k).deep]; rfl, (stepBox.cells (row_keep HX.out k)).2.2.1⟩
    refine wpIn_region_K (fun w' => w'.cell? ⟨w.heap.size + 1 + 1, 0, none⟩ = some (.int .i64 0) ∧ w'.cell? ⟨Bx, 2, none⟩ = some (.int .i64 1)) (fun j => j < 7) (by kernel_rfl) ?_
    have HS := Lib.hid (HC.out _ (below_drew1 (Below.refl W1.heap.size W1))).2

    refine wpKIn_take (sem_round l (by kernel_rfl)) (fun _ => trivial) (v := ?_) (a' := ?_) 2 rfl (by kernel_rfl) (by kernel_rfl) (by kernel_rfl) (by kernel_rfl) (by kernel_rfl) (fun _ _ _ h => h) HS.out ?_ ?_ ?_
    rotate_left 2
    · refine .inl ⟨by kernel_rfl, ?_⟩; intro wS hS; have hc := hS.1; clear hS; go_simp; with_reducible rfl
    · go_simp; with_reducible rfl
    refine wpKIn_take0 (sem_round l (by kernel_rfl)) (fun _ => trivial) (v := ?_) (a' := ?_) 3 rfl (by kernel_rfl) (by kernel_rfl) (by kernel_rfl) (by kernel_rfl) (fun _ _ _ h => h) ?_ ?_ ?_
    rotate_left 2
    · refine .inl ⟨by kernel_rfl, ?_⟩; intro wS hS; clear hS; go_simp; with_reducible rfl
    · go_simp; with_reducible rfl
    refine wpKIn_take (sem_round l (by kernel_rfl)) (fun _ => trivial) (v := ?_) (a' := ?_) 4 rfl (by kernel_rfl) (by kernel_rfl) (by kernel_rfl) (by kernel_rfl) (by kernel_rfl) (fun _ _ _ h => h) HS.out ?_ ?_ ?_
    rotate_left 2
    · refine .inl ⟨by kernel_rfl, ?_⟩; intro wS hS; have hc := hS.2; clear hS; go_simp; with_reducible rfl
    · go_simp; with_reducible rfl
    refine wpKIn_take0 (sem_round l (by kernel_rfl)) (fun _ => trivial) (v := ?_) (a' := ?_) 5 rfl (by kernel_rfl) (by kernel_rfl) (by kernel_rfl) (by kernel_rfl) (fun _ _ _ h => h) ?_ ?_ ?_
    rotate_left 2
    · refine .inl ⟨by kernel_rfl, ?_⟩; intro wS hS; clear hS; go_simp; with_reducible rfl
    · go_simp; with_reducible rfl
    have c0 : W1.drew.cell? ⟨w.heap.size + 1, 0, none⟩ = some (.int .i64 0) := (HC.out _ (below_drew1 (Below.refl W1.heap.size W1))).1
    have f0 : W1.drew.frozen? ⟨w.heap.size + 1, 0, none⟩ = false := block_free0 HI1.out.size
    have f1 : W1.drew.frozen? ⟨w.heap.size + 1 + 1, 0, none⟩ = false := block_free0 HI1.out.deep
    obtain ⟨Wd, hWd⟩ : ∃ Wd, Wd = W1.drew := ⟨_, rfl⟩
    rw [← hWd] at c0 f0 f1 HS
    change wpKIn _ _ _ _ _ _ _ _ _ _ _ W1.drew
    rw [← hWd]
    have HWD := Lib.hid hWd
    clear hWd
    refine wpKIn_one 0 rfl (by kernel_rfl) (fun K hK => ?_)
    have HKK := Lib.hid hK
    clear hK
    gi_wp2
    refine HKK.out _ _ (fun _ h => h) ?_
    refine wpKIn_take0 (sem_round l (by kernel_rfl)) (fun _ => trivial) (v := ?_) (a' := ?_) 1 rfl (by kernel_rfl) (by kernel_rfl) (by kernel_rfl) (by kernel_rfl) (fun _ _ _ h => h) ?_ ?_ ?_
    rotate_left 2
    · refine .inl ⟨by kernel_rfl, ?_⟩; intro wS hS; clear hS; go_simp; with_reducible rfl
    · go_simp; with_reducible rfl
    refine wpKIn_one 6 rfl (by kernel_rfl) (fun K hK => ?_)
    have HKK := Lib.hid hK
    clear hK
    gi_wp2
    refine HKK.out _ _ (fun _ h => ⟨(World.cell?_setCell_other _ _ _ _ (fun e => by have := congrArg Addr.block e; simp only at this; omega)).trans h.1, (World.cell?_setCell_other _ _ _ _ (fun e => by have := congrArg Addr.block e; simp only at this; omega)).trans h.2⟩) ?_
    have c1 := HS.out.1
    refine wpKIn_one 7 rfl (by kernel_rfl) (fun K hK => ?_)
    have HKK := Lib.hid hK
    clear hK
    gi_wp2
    refine HKK.out _ _ (fun h => (by cases h)) ?_
    refine wpKIn_end (by kernel_rfl) ?_ _
    gi_wp2
    exact ⟨(keepsFrom_below HB1.out).trans (by rw [HWD.out]; exact ((KeepsOthers.drew W1).trans ((KeepsOthers.setCell _ _ _).trans (KeepsOthers.setCell _ _ _))).from _), by rw [HWD.out]; exact ((below_drew1 (HB1.out.mono HI.out.bel.size)).setCell (p := ⟨w.heap.size + 1, 0, none⟩) (by simp) _).setCell (p := ⟨w.heap.size + 1 + 1, 0, none⟩) (by simp; omega) _, by rw [HWD.out]; exact HI1.out.bump⟩
  case stop => exact fun _ _ _ _ _ _ h => h.elim
  case done =>
    rintro D ys W hD rfl hi hK
    have hi : Fst w s Bs Bp 1 W := hi
    have hc : W.cell? ⟨w.heap.size + 1 + 1, 0, none⟩ = some (.int .i64 1) := by rw [cell_of_row W _ _ _ _ _ hi.deep]; rfl
    have hDW : D < W.heap.size := (Array.getElem?_eq_some_iff.1 hK).1
    have HI := Lib.hid hi
    have HK := Lib.hid hK
    clear hi hK hF
    have HLB : Hid (∀ b, b = lowB s → (∀ W', LeafAt W' s Bp → Calls Tryz.prog 104 #[leafV Bp] W' fun e w' => e = .returned (if b then .tuple #[.int .i64 0, .string ⟨#[]⟩] else .tuple #[.int .i64 8, .string s]) ∧ Below W'.heap.size W' w')) := Lib.hid fun b e W' h => by
      rw [e]
      exact FL.out W' h
    gi_wp2
    have hz1 := HI.out.bel.size
    refine wpIn_rangeFunc_ownH rfl hn (gf := 105) (lb := #[.pointer (some ⟨Bs, 0, none⟩)]) rfl trivial (enters_of Tryz.func105 (by kernel_rfl) rfl)
      (steps1_leaf (n - 1) w.heap.size Bs Bp s W hBs hBp hz1 HI.out.leaf HI.out.box) belowK_t (belowK_b hz1) (Below.refl _ _) (fun _ => rfl)
      (fun pre W' => Fst w s Bs Bp 1 W' ∧ (pre ≠ [] → lowB s = true) ∧ W'.heap[D]? = some (.deferred (some []))) (fun c pre W' => c = .ret ∧ lowB s = false ∧ W'.heap[w.heap.size]? = some (.cells #[.int .i64 8, .int .i64 0, .string s] 120 (0, 0)) ∧ Below w.heap.size w W' ∧ W'.heap[D]? = some (.deferred (some [])))
      (fun pre X Y row hs hg hr => ⟨Fst.own1 hz1 hs.1 hg hr, hs.2.1, deferred_own hDW hs.2.2 hg hr⟩) (fun c pre X Y row hs hg hr => ⟨hs.1, hs.2.1, blk_own hs.2.2.1 hg hr, hs.2.2.2.1.grown hg hs.2.2.2.1.size fun k e => Nat.le_trans hz1 (hr k e).1, deferred_own hDW hs.2.2.2.2 hg hr⟩) ⟨HI.out, fun h => absurd rfl h, HK.out⟩
      (fun x a' W' => ∃ Bx, w.heap.size + 3 ≤ Bx ∧ stepBox W' Bp Bx ∧ a' = { tmps := #[.func (.func 105) #[] #[.pointer (some ⟨Bs, 0, none⟩)], undef, .pointer (some ⟨w.heap.size, 0, none⟩), .pointer (some ⟨w.heap.size + 1, 0, none⟩), .pointer (some ⟨w.heap.size + 1 + 1, 0, none⟩), undef, .pointer (some ⟨Bx, 0, none⟩), undef, undef, .func (.func 105) #[] #[.pointer (some ⟨Bs, 0, none⟩)], undef, undef, undef, undef, undef, undef, undef, undef, undef, undef, undef, undef, undef, .int .i64 1, .bool false, undef, .func (.func 105) #[] #[.pointer (some ⟨Bs, 0, none⟩)], leafV Bp, undef, undef, undef, undef, undef, undef, undef, undef, undef, undef, undef, undef, undef], defers := [] })
      (fun x a' _ X Y row hs hg hr => by obtain ⟨Bx, h1, h2, h3⟩ := hs; exact ⟨Bx, h1, blk_own h2 hg hr, h3⟩) ?assign2 ?body2 ?done2 ?stop2
    case assign2 =>
      rintro l pre x W2 K ⟨hi, hl, hk⟩ hKK
      have HI2 := Lib.hid hi
      have hz : w.heap.size + 3 ≤ W2.heap.size := by have := (Array.getElem?_eq_some_iff.1 hi.deep).1; omega
      clear hi
      unfold leafV
      gi_wp2
      exact hKK _ _ ((KeepsOthers.alloc _ _).from _) ((Below.refl _ W2).alloc (by omega) _) ⟨HI2.out.on (below_new _ _), hl, row_keep hk (below_new _ _)⟩ ⟨W2.heap.size, hz, heap_alloc_new _ _, rfl⟩
    case body2 =>
      rintro l pre x a' W2 hl hrec ⟨hi, hlo, hk⟩ ⟨Bx, hBx, hbx, rfl⟩ hlt
      obtain rfl : pre = [] := by cases pre with | nil => rfl | cons a b => simp at hlt
      have HI2 := Lib.hid hi
      have HK2 := Lib.hid hk
      have HX := Lib.hid hbx
      obtain ⟨x0, x1, x2, x3⟩ := stepBox.cells hbx
      clear hi hbx hlt hrec hlo hk hc
      by_cases hlb : lowB s = true
      case pos =>
        have HLW := Lib.hid hlb
        clear hlb
        gi_wp2
        refine ⟨trivial, fun h => (by simp [Fence.wide] at h), (CallsIn.inRound l (callsIn_wide.2 (HLB.out true HLW.out.symm _ HI2.out.leaf))).mono ?_⟩
        rintro e W3 ⟨rfl, hb3⟩
        have HB3 := Lib.hid hb3
        clear hb3 x0 x1 x2 x3
        gi_wp2
        exact ⟨keepsFrom_below HB3.out, HB3.out.mono HI2.out.bel.size, HI2.out.on HB3.out, fun _ => HLW.out, row_keep HK2.out HB3.out⟩
      case neg =>
        have HLW := Lib.hid (Bool.eq_false_iff.2 hlb)
        clear hlb
        gi_wp2
        refine ⟨trivial, fun h => (by simp [Fence.wide] at h), (CallsIn.inRound l (callsIn_wide.2 (HLB.out false HLW.out.symm _ HI2.out.leaf))).mono ?_⟩
        rintro e W3 ⟨rfl, hb3⟩
        have HB3 := Lib.hid hb3
        have HI3 := Lib.hid (HI2.out.on hb3)
        have y1 := (stepBox.cells (row_keep HX.out hb3)).2.1
        have r0 : W3.cell? ⟨w.heap.size, 0, none⟩ = some (.int .i64 0) := by rw [cell_of_row W3 _ _ _ _ _ HI3.out.res]; rfl
        have r1 : W3.cell? ⟨w.heap.size, 1, none⟩ = some (.int .i64 0) := by rw [cell_of_row W3 _ _ _ _ _ HI3.out.res]; rfl
        have r2 : W3.cell? ⟨w.heap.size, 2, none⟩ = some (.string ⟨#[]⟩) := by rw [cell_of_row W3 _ _ _ _ _ HI3.out.res]; rfl
        have f0 : W3.frozen? ⟨w.heap.size, 0, none⟩ = false := block_free0 HI3.out.res
        have f1 : W3.frozen? ⟨w.heap.size, 1, none⟩ = false := block_free0 HI3.out.res
        have f2 : W3.frozen? ⟨w.heap.size, 2, none⟩ = false := block_free0 HI3.out.res
        clear hb3 x0 x1 x2 x3
        gi_wp2
        exact ⟨(keepsFrom_below HB3.out).trans ((keeps3 _ _ _ _ _).from _), rfl, HLW.out, set3 HI3.out.res, below3 HI3.out.bel _ _ _, (keeps3 _ _ _ _ _).same D _ (row_keep HK2.out HB3.out) rfl⟩
    case done2 =>
      rintro D2 ys W3 hD2 rfl ⟨hi, hlo, hk⟩ hK2
      have HI3 := Lib.hid hi
      have HLW := Lib.hid (hlo (by simp))
      have r0 : W3.cell? ⟨w.heap.size, 0, none⟩ = some (.int .i64 0) := by rw [cell_of_row W3 _ _ _ _ _ hi.res]; rfl
      have r1 : W3.cell? ⟨w.heap.size, 1, none⟩ = some (.int .i64 0) := by rw [cell_of_row W3 _ _ _ _ _ hi.res]; rfl
      have r2 : W3.cell? ⟨w.heap.size, 2, none⟩ = some (.string ⟨#[]⟩) := by rw [cell_of_row W3 _ _ _ _ _ hi.res]; rfl
      have f0 : W3.frozen? ⟨w.heap.size, 0, none⟩ = false := block_free0 hi.res
      have f1 : W3.frozen? ⟨w.heap.size, 1, none⟩ = false := block_free0 hi.res
      have f2 : W3.frozen? ⟨w.heap.size, 2, none⟩ = false := block_free0 hi.res
      have HK2 := Lib.hid hK2
      have HK := Lib.hid hk
      clear hi hlo hk hK2 hc
      gi_wp2
      have hk2 := (keeps3 W3 w.heap.size (.int .i64 0) (.int .i64 0) (.string ⟨#[]⟩)).same D2 _ HK2.out rfl
      have hk1 := (keeps3 W3 w.heap.size (.int .i64 0) (.int .i64 0) (.string ⟨#[]⟩)).same D _ HK.out rfl
      have hr := set3 (x := .int .i64 0) (y := .int .i64 0) (z := .string ⟨#[]⟩) HI3.out.res
      have hbe := below3 HI3.out.bel (.int .i64 0) (.int .i64 0) (.string ⟨#[]⟩)
      generalize (((W3.setCell ⟨w.heap.size, 0, none⟩ (.int .i64 0)).setCell ⟨w.heap.size, 1, none⟩ (.int .i64 0)).setCell ⟨w.heap.size, 2, none⟩ (.string ⟨#[]⟩)) = W4 at *
      exact marks_end (by omega) hk2 hk1 (by have := HI3.out.bel.size; omega) (by omega) rfl rfl hr hbe (by unfold badV; rw [HLW.out]; rfl)
    case stop2 =>
      rintro D2 c pre W3 hD2 rfl ⟨rfl, hlb, hres, hbel, hk⟩ hK2
      have HR := Lib.hid hres
      have HBE := Lib.hid hbel
      have HLW := Lib.hid hlb
      have HK := Lib.hid hk
      have HK2 := Lib.hid hK2
      clear hres hbel hlb hk hK2 hc
      gi_wp2
      exact marks_end (by omega) HK2.out HK.out (by have := HBE.out.size; omega) (by omega) rfl rfl HR.out HBE.out (by unfold badV; rw [HLW.out]; rfl)
set_option maxHeartbeats 1000000 in
theorem rightPat_leaf (s : ByteArray) (hs : s.size ≤ 1048576) (w : World) : Calls Tryz.prog 83 #[.agg (patRow s)] w fun e w' => e = .returned (badV s) ∧ Below w.heap.size w w' := by
  have HB : Hid (∃ x y z, badV s = .agg #[.int .i64 x, .int .i64 y, .string z]) := Lib.hid (by unfold badV; split <;> exact ⟨_, _, _, rfl⟩)
  have HF := Lib.hid (fun Bs W h1 h2 h3 h4 => callsIn_wide.1 (first_leaf 1 Bs w.heap.size s hs W h1 h2 h3 h4 (Nat.le_refl _)))
  have HS := Lib.hid (fun W => callsIn_wide.1 (steps_any 1 (some ⟨w.heap.size, 0, none⟩) W))
  go_enter Tryz.func83, Tryz.ntmps83
  go_wp2_with fail
  obtain ⟨W0, hW0⟩ : ∃ W0, W0 = ((w.alloc (.cells (patRow s) 95)).alloc (.cells #[.int .i64 0, .int .i64 0, .string ⟨#[]⟩] 120)) := ⟨_, rfl⟩
  have g0 : LeafAt W0 s w.heap.size := by unfold LeafAt; rw [hW0]; exact (Below.heap_alloc _ _ _ (by simp)).trans (heap_alloc_new _ _)
  have g1 : W0.heap[w.heap.size + 1]? = some (.cells #[.int .i64 0, .int .i64 0, .string ⟨#[]⟩] 120 (0, 0)) := by rw [hW0]; have := heap_alloc_new (w.alloc (.cells (patRow s) 95)) (.cells #[.int .i64 0, .int .i64 0, .string ⟨#[]⟩] 120); rwa [World.size_alloc] at this
  have hb0 : Below w.heap.size w W0 := by rw [hW0]; exact (below_new _ _).alloc (by simp) _
  have hz0 : w.heap.size + 1 < W0.heap.size := (Array.getElem?_eq_some_iff.1 g1).1
  rw [← hW0]
  clear hW0
  refine (HS.out W0).mono ?_
  rintro e w1 ⟨rfl, hw1⟩
  have hb1 : Below W0.heap.size W0 w1 := by rw [hw1]; exact below_new _ _
  have hk1 : w1.heap[W0.heap.size]? = some (.cells #[.pointer (some ⟨w.heap.size, 0, none⟩)] 133 (0, 0)) := by rw [hw1]; exact heap_alloc_new _ _
  have hz1 : W0.heap.size < w1.heap.size := (Array.getElem?_eq_some_iff.1 hk1).1
  have HC := Lib.hid (HF.out W0.heap.size w1 hz1 (by omega) (g0.on hb1 (by omega)) hk1)
  have HG1 := Lib.hid (row_keep g1 hb1)
  have HBB := Lib.hid (hb0.trans (hb1.mono hb0.size))
  clear hb0 hb1 hk1 hw1 g0 g1
  go_wp2_with fail
  refine HC.out.mono ?_
  rintro e w2 ⟨rfl, hb2⟩
  obtain ⟨x, y, z, he⟩ := HB.out
  rw [he]
  have hg2 := row_keep HG1.out hb2
  have HB2 := Lib.hid (HBB.out.trans (hb2.mono HBB.out.size))
  have HE := Lib.hid he
  clear hb2 he
  go_wp2_with (refine wpList_store_row rfl 120 _ _ rfl (w.heap.size + 1) _ rfl rfl 120 #[.int .i64 0, .int .i64 0, .string ⟨#[]⟩] hg2 (badSize _ _ _) rfl (by simp [Value.oneCell']) ?_)
  refine bodyPost_ret (results_cell_row rfl _ _ (w.heap.size + 1) 120 #[.int .i64 x, .int .i64 y, .string z] (0, 0) _ rfl (setRow_row hg2) Tryz.underlying120 rfl (badSize _ _ _)) rfl ?_
  exact ⟨by rw [HE.out], ⟨HB2.out.os, HB2.out.tape, HB2.out.output, by rw [size_setRow]; exact HB2.out.size, fun k hk => (setRow_old (by omega)).trans (HB2.out.block k hk)⟩⟩
/-- **A lower-case name, as package ty asks for it.** -/
theorem lowIs (s : ByteArray) (hs : s.size ≤ 1048576) : LowIs s := fun w => by
  have HR := Lib.hid (fun W => rightPat_leaf s hs W)
  have HV : Hid (badV s = if lowB s then .agg #[.int .i64 0, .int .i64 0, .string ⟨#[]⟩] else .agg #[.int .i64 8, .int .i64 0, .string s]) := Lib.hid rfl
  generalize badV s = V at *
  unfold patRow at HR
  cases hl : lowB s
  all_goals
    rw [hl] at HV
    simp only [if_true, if_false, Bool.false_eq_true] at HV
    have hv := HV.out
    subst hv
    clear HV hl
    go_enter Tryz.func70, Tryz.ntmps70
    go_wp2_with (go_at_call 83; refine (HR.out _).mono ?_; rintro e w1 ⟨rfl, hb1⟩; have HB1 := Lib.hid hb1; clear hb1)
    go_ret
    exact ⟨rfl, HB1.out⟩

end Go.Proofs.YtoopopjcojphaaaGreatDoor
