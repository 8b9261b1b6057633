import Derived.Below
import Derived.ChangeSame
import Derived.Carry
import Derived.WalkKit
import Derived.ProofKit
import Derived.OpenShut
import Derived.Deep.DeepHandedRow
import Derived.Lib.LaidTab
import Derived.Lib.Hide
import Derived.Lib.SmallJoins
import Derived.Sort.Grow
import Derived.Deep.QuietTactic
import Derived.BigQuiet
import Derived.Laws.OwnMore
import Derived.Deep.AppendLies
import Derived.Deep.Draws
import Derived.Deep.MidRow
import Derived.Maps.AppendAt
import Derived.OwnWalk
import Derived.OrdersHeld
import Derived.RegionTactic
import Derived.Tactics
/-
  SMALL GENERAL LEMMAS: a law that returns true and leaves all memory that was there as it was meets its row, whatever its parameters' types are. Nothing of the program is named here.
-/
namespace Go.Proofs.YtoopopjcojphaaaGreatDoor
open Go.ChangeShapes Go.WideShapes Go.ChangeAt Go.RowKit
section
variable {H : Type} {enc : TypeId × Value → H} {P : Program}

theorem trodAll_stays (hl : laidOutB P = true) {W W' : World} {sp : Nat → Bool} : ∀ {ts : List TypeId} {vs : List Value} {ds : List (DataW H)} {ps : List MemPlace},
    (∀ t ∈ ts, P.readableRec t = true ∧ t < P.types.size) → DataW.TrodAll enc P W 0 (fun _ => true) true ts vs ds ps → (∀ p ∈ ps, W.sameAt W' p) → (∀ p ∈ ps, sp p.block = true) →
    DataW.TrodAll enc P W' 0 sp true ts vs ds ps
  | [], [], [], _, _, h, _, _ => h
  | t :: ts, v :: vs, d :: ds, ps, hr, h, hsame, hs => by
    obtain ⟨p, q, h1, h2, rfl⟩ := h
    have hp : ∀ x ∈ p, x ∈ p ++ q := fun x hx => List.mem_append.2 (.inl hx)
    have hq : ∀ x ∈ q, x ∈ p ++ q := fun x hx => List.mem_append.2 (.inr hx)
    exact ⟨p, q, WideElems.Trod_stays hl (hr t (List.mem_cons_self ..)).1 (hr t (List.mem_cons_self ..)).2 h1 (fun x hx => hsame x (hp x hx)) (fun x hx => hs x (hp x hx)),
      trodAll_stays hl (fun t' ht' => hr t' (List.mem_cons_of_mem _ ht')) h2 (fun x hx => hsame x (hq x hx)) (fun x hx => hs x (hq x hx)), rfl⟩

/-- THE ROW's POST OF A LAW: true, and nothing that was there has turned. -/
theorem law_post {f : Func} {s : ChangeSpec} {W W' : World} {args : Array Value} {ds gs : List (DataW H)} {before : List MemPlace} {tb : TypeId}
    (hl : laidOutB P = true) (hps : ∀ t ∈ f.params.toList, P.readableRec t = true ∧ t < P.types.size) (hvars : s.vars = [])
    (hfn : s.fn H (ds ++ gs) = { results := [.lit (.bool true)], args := ds }) (hres : f.resultTypes = #[tb]) (htb : P.underlying tb = some .bool)
    (hW : DataW.Whole enc P f.params.toList s.vars false W args.toList ds gs before) (hb : Below W.heap.size W W') :
    s.post enc P f false true false false W args (.bool true) W' := by
  have hlt : ∀ p ∈ before, p.block < W.heap.size := fun p hp => hW.lt p hp
  have hW0 := hW
  obtain ⟨p, q, hA, hV, rfl, hz, hn⟩ := hW
  rw [hvars] at hV
  obtain ⟨rfl, rfl⟩ := trodVars_none hV
  rw [List.append_nil] at hlt
  refine ⟨ds, [], p ++ [], [], p, [], hW0, ?_, ?_, ?_, hb.frame _, fun h => by cases h⟩
  · rw [hfn, hres]
    exact trodAll_cons_mk (shut_bool htb _) trodAll_mk0
  · rw [hfn]
    exact trodAll_stays hl hps hA (fun x hx => hb.same (hlt x hx)) (fun x hx => by simpa using hlt x hx)
  · rw [hfn, hvars]
    exact rfl
end

/-! ### Worlds -/
theorem below_drewN {B : Nat} {a w : World} (h : Below B a w) (n : Nat) : Below B a (w.drewN n) := ⟨h.os, h.tape, h.output, h.size, h.block⟩
theorem below_grow {B : Nat} {a w : World} (h : Below B a w) (hB : B ≤ w.heap.size) (os : Array Obj) : Below B a (Sort.grow w os) :=
  h.trans ⟨rfl, rfl, rfl, by simp [Sort.grow], fun k hk => by
    show (w.heap ++ os)[k]? = w.heap[k]?
    rw [Array.getElem?_append_left (by omega)]⟩
/-- Two calls, one behind the other: of what was there ahead of the first nothing has turned. -/
theorem below_then {a b c : World} (h : Below a.heap.size a b) (k : Below b.heap.size b c) : Below a.heap.size a c := h.trans (k.mono h.size)

/-! ### Quiet calls -/
theorem quiet_add_left {P : Program} {f : FuncId} {args : Array Value} {w : World} {a n : Nat} {v : Value}
    (h : Calls P f args (w.drewN (a + n)) fun e w' => e = .returned v ∧ w.drewN (a + n) = w') :
    Calls P f args (w.drewN (a + n)) fun e w'' => e = .returned v ∧ ∃ m, w'' = w.drewN (a + m) :=
  h.mono fun _ _ ⟨he, hm⟩ => ⟨he, n, hm.symm⟩
theorem quiet_left {P : Program} {f : FuncId} {args : Array Value} {w : World} {n : Nat} {v : Value}
    (h : Calls P f args (w.drewN n) fun e w' => e = .returned v ∧ w.drewN n = w') : Calls P f args (w.drewN n) fun e w'' => e = .returned v ∧ ∃ m, w'' = w.drewN m :=
  h.mono fun _ _ ⟨he, hm⟩ => ⟨he, n, hm.symm⟩
theorem drew2 (w : World) (n k : Nat) : ∃ m, (w.drewN n).drewN k = w.drewN m := ⟨n + k, World.drewN_drewN w n k⟩
theorem below_new (w : World) (o : Obj) : Below w.heap.size w (w.alloc o) := (Below.refl _ _).alloc (Nat.le_refl _) o

theorem bcell {W W1 : World} (hb : Below W.heap.size W W1) : (∀ b o, b < W.heap.size → W1.cell? ⟨b, o, none⟩ = W.cell? ⟨b, o, none⟩) ∧ (∀ b o, b < W.heap.size → W1.frozen? ⟨b, o, none⟩ = W.frozen? ⟨b, o, none⟩) :=
  ⟨fun b o h => hb.cell (p := ⟨b, o, none⟩) h, fun b o h => hb.frozen (p := ⟨b, o, none⟩) h⟩

/-! ### Listed variables -/
theorem laid_cons {P : Program} {W : World} {x : String × DataW Unit} {l : List (String × DataW Unit)} {ps : List MemPlace} (h : DataW.LaidVars P W (x :: l) ps) : ∃ q, DataW.LaidVars P W l q := by
  obtain ⟨g, t, cs, fuel, p, q, _, _, _, _, h, _⟩ := h
  exact ⟨q, h⟩
theorem laid_head {P : Program} {W : World} {name : String} {k : IntKind} {zs : List Int} {rest : List (String × DataW Unit)} {ps : List MemPlace} {g : Nat} {t e : TypeId} {n : Nat}
    (hg : P.globalNamed name = some g) (hty : (P.globals[g]?).map (·.type) = some t) (ht : P.underlying t = some (.array n e)) (he : P.underlying e = some (.int k)) (hce : P.cellsOf e = 1) (hct : P.cellsOf t = n)
    (h : DataW.LaidVars P W ((name, Lib.tabData k zs) :: rest) ps) : Lib.TabIs P W name k zs := by
  obtain ⟨g', t', cs, fuel, p, q, hg', ht', hvar, hd, _, _⟩ := h
  obtain rfl := Option.some.inj (hg.symm.trans hg')
  obtain rfl := Option.some.inj (hty.symm.trans ht')
  unfold Lib.TabIs
  rw [hvar, ← Lib.cells_of_tab ht he hce hct hd]
theorem tab_on {P : Program} {w w' : World} {name : String} {k : IntKind} {zs : List Int} (h : Lib.TabIs P w name k zs) (hb : Below w.heap.size w w') : Lib.TabIs P w' name k zs := by
  unfold Lib.TabIs World.var? at *
  cases hg : P.globalNamed name with
  | none => simp [hg] at h
  | some g =>
    simp only [hg, Option.bind_some] at h ⊢
    have hlt : g < w.heap.size := by
      rcases Nat.lt_or_ge g w.heap.size with h' | h'
      · exact h'
      · rw [Array.getElem?_eq_none h'] at h; simp at h
    rw [hb.block g hlt]
    exact h
end Go.Proofs.YtoopopjcojphaaaGreatDoor
/-
  SLICES OF INTEGERS AS LISTS: a slice value '.slice A n c' whose cells hold the integers of a list, nil let in. Small lemmas on endings. Nothing of the program is named here.
-/
namespace Go.Proofs.YtoopopjcojphaaaGreatDoor
open Go.ChangeShapes Go.WideShapes Go.ChangeAt Go.RowKit

theorem ret_int {k : IntKind} {a b : Int} (h : a = b) : Ending.returned (.int k a) = .returned (.int k b) := by rw [h]
theorem ret_bool {a b : Bool} (h : a = b) : Ending.returned (.bool a) = .returned (.bool b) := by rw [h]
theorem ret_str {a b : ByteArray} (h : a = b) : Ending.returned (.string a) = .returned (.string b) := by rw [h]

theorem block_add (a : Addr) (n : Nat) : (a.add n).block = a.block := by unfold Addr.add; split <;> rfl
/-- The cells from A on hold the integers of xs; all lie below block B. -/
def IntsAt (w : World) (B : Nat) (A : Option Addr) (xs : List Int) : Prop :=
  ∀ (k : Nat) (x : Int), xs[k]? = some x → ∃ ad : Addr, A = some ad ∧ ad.block < B ∧ w.cell? (ad.add k) = some (.int .i64 x)
section
variable {w w' : World} {B B' : Nat} {A : Option Addr} {xs : List Int}
theorem IntsAt.nil : IntsAt w B A [] := fun k x h => by simp at h
theorem IntsAt.keep (h : IntsAt w B A xs) (hk : ∀ p : Addr, p.block < B → w'.cell? p = w.cell? p) : IntsAt w' B A xs := fun k x hx => by
  obtain ⟨ad, e, hb, hc⟩ := h k x hx
  exact ⟨ad, e, hb, (hk _ (by rw [block_add]; exact hb)).trans hc⟩
theorem IntsAt.more (h : IntsAt w B A xs) (hB : B ≤ B') : IntsAt w B' A xs := fun k x hx => by
  obtain ⟨ad, e, hb, hc⟩ := h k x hx
  exact ⟨ad, e, by omega, hc⟩
theorem IntsAt.below (h : IntsAt w B A xs) (hb : Below B w w') : IntsAt w' B A xs := h.keep fun _ hp => hb.cell hp
theorem IntsAt.drewN (h : IntsAt w B A xs) (k : Nat) : IntsAt (w.drewN k) B A xs := h
theorem IntsAt.alloc (h : IntsAt w B A xs) (hB : B ≤ w.heap.size) (o : Obj) : IntsAt (w.alloc o) B A xs := h.keep fun p hp => World.cell?_alloc_lt w o p (by omega)
theorem IntsAt.at_ (h : IntsAt w B A xs) {k : Nat} (hk : k < xs.length) : ∃ ad : Addr, A = some ad ∧ ad.block < B ∧ w.cell? (ad.add k) = some (.int .i64 xs[k]) := h k _ (List.getElem?_eq_getElem hk)
theorem IntsAt.take (h : IntsAt w B A xs) (n : Nat) : IntsAt w B A (xs.take n) := fun k x hx => h k x (by
  rw [List.getElem?_take] at hx
  split at hx
  · exact hx
  · cases hx)
end
/-- Every integer of the list is one of 64 bits. -/
def In64 (xs : List Int) : Prop := ∀ x ∈ xs, -9223372036854775808 ≤ x ∧ x ≤ 9223372036854775807
theorem In64.at_ {xs : List Int} (h : In64 xs) {k : Nat} (hk : k < xs.length) : -9223372036854775808 ≤ xs[k] ∧ xs[k] ≤ 9223372036854775807 := h _ (List.getElem_mem hk)
theorem In64.take {xs : List Int} (h : In64 xs) (n : Nat) : In64 (xs.take n) := fun x hx => h x (List.mem_of_mem_take hx)
theorem In64.nil : In64 [] := fun x h => by cases h
end Go.Proofs.YtoopopjcojphaaaGreatDoor
/-
  READINGS OF TREES, FOR ANY TYPE OF ELEMENT: what a row of cells reads as, which blocks the reading goes through, rows of such elements, rows that the call made itself. Nothing of the program is named here.
-/
namespace Go.Proofs.YtoopopjcojphaaaGreatDoor
open Go.ChangeShapes Go.WideShapes Go.ChangeAt Go.RowKit
/-- In the blocks of S all cells are as they were. -/
def Same (S : Nat → Prop) (w w' : World) : Prop := ∀ b o, S b → w'.cell? ⟨b, o, none⟩ = w.cell? ⟨b, o, none⟩
def Lt (B : Nat) : Nat → Prop := fun b => b < B
def New (B : Nat) (w : World) : Nat → Prop := fun b => B ≤ b ∧ b < w.heap.size
theorem Same.refl (S : Nat → Prop) (w : World) : Same S w w := fun _ _ _ => rfl
theorem Same.trans {S : Nat → Prop} {a b c : World} (h : Same S a b) (k : Same S b c) : Same S a c := fun x o hx => (k x o hx).trans (h x o hx)
theorem Same.of_below {S : Nat → Prop} {B : Nat} {w w' : World} (hb : Below B w w') (h : ∀ b, S b → b < B) : Same S w w' := fun b o hS => hb.cell (p := ⟨b, o, none⟩) (h b hS)
theorem Same.lt {B : Nat} {w w' : World} (hb : Below B w w') : Same (Lt B) w w' := .of_below hb fun _ h => h
theorem Same.grown {S : Nat → Prop} {w w' : World} {row : Option Nat} (hg : w.grownBy w' row) (h : ∀ b, S b → b < w.heap.size ∧ row ≠ some b) : Same S w w' := fun b o hS => by
  obtain ⟨h1, h2⟩ := h b hS
  exact World.cell?_of_block (a := ⟨b, o, none⟩) (hg.block b h1 (fun e => h2 e.symm))
theorem range_keep {w w' : World} {b o B : Nat} {cs : List Value} (h : w.rangeAt b o cs) (hb : Below B w w') (hB : b < B) : w'.rangeAt b o cs := fun j v hv => (hb.cell (p := ⟨b, o + j, none⟩) hB).trans (h j v hv)
theorem range_same {w w' : World} {S : Nat → Prop} {b o : Nat} {cs : List Value} (h : w.rangeAt b o cs) (hs : Same S w w') (hb : S b) : w'.rangeAt b o cs := fun j v hv => (hs b (o + j) hb).trans (h j v hv)

/-- What cells read as, through which blocks. -/
structure Reading (α : Type) where
  rd : World → (Nat → Prop) → α → List Value → Prop
  keep : ∀ {w w' : World} {S : Nat → Prop} {a : α} {cs : List Value}, Same S w w' → rd w S a cs → rd w' S a cs
  more : ∀ {w : World} {S S' : Nat → Prop} {a : α} {cs : List Value}, (∀ b, S b → S' b) → rd w S a cs → rd w S' a cs

section
variable {α : Type} {R : Reading α} {w w' : World} {S S' : Nat → Prop} {sz base : Nat} {e : TypeId} {A : Option Addr} {l : List α} {v : Value}
/-- From A on lie the elements of l, sz cells each. -/
def Rows (R : Reading α) (sz : Nat) (w : World) (S : Nat → Prop) (A : Option Addr) (l : List α) : Prop :=
  ∀ (i : Nat) (a : α), l[i]? = some a → ∃ b o cs, A = some ⟨b, o, none⟩ ∧ S b ∧ w.rangeAt b (o + i * sz) cs ∧ R.rd w S a cs
theorem Rows.nil : Rows R sz w S A [] := fun i a h => by simp at h
theorem Rows.keep (h : Rows R sz w S A l) (hs : Same S w w') : Rows R sz w' S A l := fun i a ha => by
  obtain ⟨b, o, cs, e, hS, hr, hd⟩ := h i a ha
  exact ⟨b, o, cs, e, hS, range_same hr hs hS, R.keep hs hd⟩
theorem Rows.more (h : Rows R sz w S A l) (hs : ∀ b, S b → S' b) : Rows R sz w S' A l := fun i a ha => by
  obtain ⟨b, o, cs, e, hS, hr, hd⟩ := h i a ha
  exact ⟨b, o, cs, e, hs b hS, hr, R.more hs hd⟩
theorem Rows.at_ (h : Rows R sz w S A l) {i : Nat} (hi : i < l.length) : ∃ b o cs, A = some ⟨b, o, none⟩ ∧ S b ∧ w.rangeAt b (o + i * sz) cs ∧ R.rd w S l[i] cs := h i _ (List.getElem?_eq_getElem hi)

theorem flat_len {rows : List (List Value)} (h : ∀ r ∈ rows, r.length = sz) : rows.flatten.length = rows.length * sz := by
  induction rows with
  | nil => simp
  | cons r t ih =>
    rw [List.flatten_cons, List.length_append, ih fun x hx => h x (List.mem_cons_of_mem _ hx), h r (List.mem_cons_self ..), List.length_cons, Nat.add_mul]; omega
theorem flat_get {rows : List (List Value)} (h : ∀ r ∈ rows, r.length = sz) {i : Nat} {r : List Value} (hi : rows[i]? = some r) {j : Nat} {u : Value} (hj : r[j]? = some u) : rows.flatten[i * sz + j]? = some u := by
  induction rows generalizing i with
  | nil => simp at hi
  | cons x t ih =>
    have hx := h x (List.mem_cons_self ..)
    cases i with
    | zero =>
      simp at hi; subst hi
      rw [List.flatten_cons, Nat.zero_mul, Nat.zero_add, List.getElem?_append_left (List.getElem?_eq_some_iff.1 hj).1]; exact hj
    | succ i =>
      rw [List.getElem?_cons_succ] at hi
      rw [List.flatten_cons, List.getElem?_append_right (by rw [hx, Nat.add_mul]; omega), hx, show (i + 1) * sz + j - sz = i * sz + j by rw [Nat.add_mul]; omega]
      exact ih (fun y hy => h y (List.mem_cons_of_mem _ hy)) hi

/-- A block that holds the rows of the elements, one behind the other. -/
theorem Rows.block {g : Nat} {C : Array Value} {t : TypeId} {fr : Nat × Nat} {rows : List (List Value)} (hg : w.heap[g]? = some (.cells C t fr)) (hC : ∀ (j : Nat) (u : Value), rows.flatten[j]? = some u → C[j]? = some u) (hl : ∀ r ∈ rows, r.length = sz)
    (hlen : rows.length = l.length) (h : ∀ (i : Nat) (a : α) (r : List Value), l[i]? = some a → rows[i]? = some r → R.rd w S a r) : Rows R sz w (fun x => S x ∨ x = g) (some ⟨g, 0, none⟩) l := fun i a ha => by
  have hi : i < l.length := (List.getElem?_eq_some_iff.1 ha).1
  have hr : rows[i]? = some rows[i] := List.getElem?_eq_getElem (by omega)
  refine ⟨g, 0, rows[i], rfl, .inr rfl, fun j u hj => ?_, R.more (fun b hb => .inl hb) (h i a _ ha hr)⟩
  have h1 := hC _ u (flat_get hl hr hj)
  unfold World.cell?
  simp only [hg, Option.isSome_none, Bool.false_eq_true, if_false, Nat.zero_add]
  exact h1
/-- The slice v, whose row the call made itself, holds the elements of l; the readings go through other blocks of the call's own. -/
def OwnRows (R : Reading α) (sz : Nat) (w : World) (base : Nat) (e : TypeId) (v : Value) (l : List α) (rows : List (List Value)) : Prop :=
  rows.length = l.length ∧ (∀ r ∈ rows, r.length = sz) ∧ w.ownsRow base e sz v l.length rows.flatten ∧ ∀ (i : Nat) (a : α) (r : List Value), l[i]? = some a → rows[i]? = some r → R.rd w (fun b => base ≤ b ∧ b < w.heap.size ∧ v.ownBlock ≠ some b) a r
def Own (R : Reading α) (sz : Nat) (w : World) (base : Nat) (e : TypeId) (v : Value) (l : List α) : Prop := ∃ rows, OwnRows R sz w base e v l rows
theorem Own.nil (R : Reading α) (sz : Nat) (w : World) (base : Nat) (e : TypeId) : Own R sz w base e (.slice none 0 0) [] := ⟨[], rfl, (fun _ h => (by cases h)), World.ownsRow_nil w base e sz, (fun i a r h => (by simp at h))⟩
theorem Own.form (h : Own R sz w base e v l) : ∃ A c, v = .slice A l.length c ∧ l.length ≤ c ∧ c ≤ maxLen := by
  obtain ⟨rows, _, _, h3, _⟩ := h
  rcases h3.2 with ⟨hv, h0⟩ | ⟨g, cap, cur, hv, _, _, h1, h2, _⟩
  · exact ⟨_, _, by rw [hv, h0], by omega, Nat.zero_le _⟩
  · exact ⟨_, _, hv, h1, h2⟩
theorem Own.rows {c : Nat} (h : Own R sz w base e (.slice A l.length c) l) : Rows R sz w (New base w) A l := fun i a ha => by
  obtain ⟨rows, h1, h2, h3, h4⟩ := h
  have hi : i < l.length := (List.getElem?_eq_some_iff.1 ha).1
  rcases h3.2 with ⟨_, h0⟩ | ⟨g, cap, cur, hv, hg, hh, _⟩
  · omega
  · injection hv with hA
    subst hA
    have hr : rows[i]? = some rows[i] := List.getElem?_eq_getElem (by omega)
    have hlt : g < w.heap.size := (Array.getElem?_eq_some_iff.1 hh).1
    refine ⟨g, 0, rows[i], rfl, ⟨hg, hlt⟩, fun j u hj => ?_, R.more (fun b hb => ⟨hb.1, hb.2.1⟩) (h4 i a _ ha hr)⟩
    have := h3.cells (g := g) rfl _ u (flat_get h2 hr hj)
    rw [Addr.add_mid, Nat.zero_add] at this
    rw [Nat.zero_add]; exact this
theorem Own.keep (h : Own R sz w base e v l) (hk : ∀ k, base ≤ k → k < w.heap.size → w'.heap[k]? = w.heap[k]?) (hz : w.heap.size ≤ w'.heap.size) : Own R sz w' base e v l := by
  obtain ⟨rows, h1, h2, h3, h4⟩ := h
  refine ⟨rows, h1, h2, ⟨h3.1, ?_⟩, fun i a r ha hr => R.more (S := fun b => base ≤ b ∧ b < w.heap.size ∧ v.ownBlock ≠ some b) (fun b hb => ⟨hb.1, by omega, hb.2.2⟩) (R.keep (fun b o hb => World.cell?_of_block (a := ⟨b, o, none⟩) (hk b hb.1 hb.2.1)) (h4 i a r ha hr))⟩
  rcases h3.2 with h0 | ⟨g, cap, cur, hv, hg, hh, rest⟩
  · exact .inl h0
  · exact .inr ⟨g, cap, cur, hv, hg, (hk g hg (Array.getElem?_eq_some_iff.1 hh).1).trans hh, rest⟩
theorem Own.below (h : Own R sz w base e v l) (hb : Below w.heap.size w w') : Own R sz w' base e v l := h.keep (fun k _ hk => hb.block k hk) hb.size
/-- One element more: w1 is the world at the append (elements as in w, the new one read there). -/
theorem OwnRows.snoc {rows : List (List Value)} {w1 w2 : World} {v' : Value} {a : α} {cs : List Value} (h : OwnRows R sz w1 base e v l rows) (hcs : cs.length = sz)
    (hd : R.rd w1 (fun b => base ≤ b ∧ b < w1.heap.size ∧ v.ownBlock ≠ some b) a cs) (hown : w2.ownsRow base e sz v' (l.length + 1) (rows.flatten ++ cs)) (hg : w1.grownBy w2 v.ownBlock) (hv : v'.ownBlock = v.ownBlock ∨ v'.ownBlock = some w1.heap.size) : Own R sz w2 base e v' (l ++ [a]) := by
  obtain ⟨h1, h2, h3, h4⟩ := h
  have key : ∀ x r, R.rd w1 (fun b => base ≤ b ∧ b < w1.heap.size ∧ v.ownBlock ≠ some b) x r → R.rd w2 (fun b => base ≤ b ∧ b < w2.heap.size ∧ v'.ownBlock ≠ some b) x r := fun x r hx => by
    refine R.more (S := fun b => base ≤ b ∧ b < w1.heap.size ∧ v.ownBlock ≠ some b) (fun b hb => ⟨hb.1, Nat.lt_of_lt_of_le hb.2.1 hg.size, fun e => ?_⟩) (R.keep (Same.grown hg fun b hb => ⟨hb.2.1, hb.2.2⟩) hx)
    rcases hv with hv | hv
    · exact hb.2.2 (hv ▸ e)
    · rw [hv] at e; injection e with e; have := hb.2.1; omega
  refine ⟨rows ++ [cs], by simp [h1], fun r hr => ?_, ?_, fun i x r hx hr => ?_⟩
  · rcases List.mem_append.1 hr with hr | hr
    · exact h2 r hr
    · rw [List.mem_singleton.1 hr]; exact hcs
  · rw [List.flatten_append, List.length_append]; simpa using hown
  · by_cases hi : i < l.length
    · rw [List.getElem?_append_left hi] at hx
      rw [List.getElem?_append_left (by omega)] at hr
      exact key x r (h4 i x r hx hr)
    · have hlt := (List.getElem?_eq_some_iff.1 hx).1
      simp at hlt
      obtain rfl : i = l.length := by omega
      rw [List.getElem?_append_right (by omega), Nat.sub_self] at hx
      rw [List.getElem?_append_right (by omega), h1, Nat.sub_self] at hr
      simp at hx hr; subst hx; subst hr
      exact key _ _ hd
/-! ### Rows of the call's own whose elements are read through the blocks of S -/
def OwnIn (R : Reading α) (sz : Nat) (w : World) (S : Nat → Prop) (base : Nat) (e : TypeId) (v : Value) (l : List α) (rows : List (List Value)) : Prop :=
  rows.length = l.length ∧ (∀ r ∈ rows, r.length = sz) ∧ w.ownsRow base e sz v l.length rows.flatten ∧ ∀ (i : Nat) (a : α) (r : List Value), l[i]? = some a → rows[i]? = some r → R.rd w S a r
theorem OwnIn.form {rows : List (List Value)} (h : OwnIn R sz w S base e v l rows) : ∃ A c, v = .slice A l.length c ∧ l.length ≤ c ∧ c ≤ maxLen := by
  rcases h.2.2.1.2 with ⟨hv, h0⟩ | ⟨g, cap, cur, hv, _, _, h1, h2, _⟩
  · exact ⟨_, _, by rw [hv, h0], by omega, Nat.zero_le _⟩
  · exact ⟨_, _, hv, h1, h2⟩
theorem OwnIn.filled {rows : List (List Value)} (h : OwnIn R sz w S base e v l rows) (hl : 0 < l.length) : ∃ g c, v = .slice (some ⟨g, 0, none⟩) l.length c ∧ base ≤ g ∧ g < w.heap.size ∧ l.length ≤ c ∧ c ≤ maxLen := by
  rcases h.2.2.1.2 with ⟨hv, h0⟩ | ⟨g, cap, cur, hv, hg, hh, h1, h2, _⟩
  · omega
  · exact ⟨_, _, hv, hg, (Array.getElem?_eq_some_iff.1 hh).1, h1, h2⟩
theorem OwnIn.rows {rows : List (List Value)} {c : Nat} (h : OwnIn R sz w S base e (.slice A l.length c) l rows) : Rows R sz w (fun b => S b ∨ (base ≤ b ∧ b < w.heap.size)) A l := fun i a ha => by
  obtain ⟨h1, h2, h3, h4⟩ := h
  have hi : i < l.length := (List.getElem?_eq_some_iff.1 ha).1
  rcases h3.2 with ⟨_, h0⟩ | ⟨g, cap, cur, hv, hg, hh, _⟩
  · omega
  · injection hv with hA
    subst hA
    have hr : rows[i]? = some rows[i] := List.getElem?_eq_getElem (by omega)
    have hlt : g < w.heap.size := (Array.getElem?_eq_some_iff.1 hh).1
    refine ⟨g, 0, rows[i], rfl, .inr ⟨hg, hlt⟩, fun j u hj => ?_, R.more (fun b hb => .inl hb) (h4 i a _ ha hr)⟩
    have := h3.cells (g := g) rfl _ u (flat_get h2 hr hj)
    rw [Addr.add_mid, Nat.zero_add] at this
    rw [Nat.zero_add]; exact this
theorem OwnIn.keep {rows : List (List Value)} (h : OwnIn R sz w S base e v l rows) (hs : Same S w w') (hk : ∀ k, base ≤ k → k < w.heap.size → w'.heap[k]? = w.heap[k]?) : OwnIn R sz w' S base e v l rows := by
  obtain ⟨h1, h2, h3, h4⟩ := h
  refine ⟨h1, h2, ⟨h3.1, ?_⟩, fun i a r ha hr => R.keep hs (h4 i a r ha hr)⟩
  rcases h3.2 with h0 | ⟨g, cap, cur, hv, hg, hh, rest⟩
  · exact .inl h0
  · exact .inr ⟨g, cap, cur, hv, hg, (hk g hg (Array.getElem?_eq_some_iff.1 hh).1).trans hh, rest⟩
theorem OwnIn.below {rows : List (List Value)} (h : OwnIn R sz w S base e v l rows) (hb : Below w.heap.size w w') (hS : ∀ b, S b → b < w.heap.size) : OwnIn R sz w' S base e v l rows := h.keep (Same.of_below hb hS) fun k _ hk => hb.block k hk
/-- More elements behind: w1 is the world at the append, where both lists are read. -/
theorem OwnIn.app {rows rows' : List (List Value)} {w1 w2 : World} {v' : Value} {l' : List α} (h : OwnIn R sz w1 S base e v l rows) (hlen : rows'.length = l'.length) (hsz : ∀ r ∈ rows', r.length = sz) (h' : ∀ (i : Nat) (a : α) (r : List Value), l'[i]? = some a → rows'[i]? = some r → R.rd w1 S a r)
    (hown : w2.ownsRow base e sz v' (l.length + l'.length) (rows.flatten ++ rows'.flatten)) (hs : Same S w1 w2) : OwnIn R sz w2 S base e v' (l ++ l') (rows ++ rows') := by
  obtain ⟨h1, h2, h3, h4⟩ := h
  refine ⟨by simp [h1, hlen], fun r hr => (List.mem_append.1 hr).elim (h2 r) (hsz r), by rw [List.length_append, List.flatten_append]; exact hown, fun i a r ha hr => R.keep hs ?_⟩
  by_cases hi : i < l.length
  · rw [List.getElem?_append_left hi] at ha
    rw [List.getElem?_append_left (by omega)] at hr
    exact h4 i a r ha hr
  · rw [List.getElem?_append_right (by omega)] at ha
    rw [List.getElem?_append_right (by omega), h1] at hr
    exact h' _ a r ha hr
end
end Go.Proofs.YtoopopjcojphaaaGreatDoor
/-
  A REGION THAT DRAWS ITS ORDER: READS FIRST, THEN A CHAIN. As the library's held regions ('an operation that yields its value in every world that meets S may be taken first'), but S need not hold behind those operations ('keep i = false') that wait for all who lean on S: a store to the cell that the region loads, an append. What is left when the reads are taken is mostly a chain: it is walked as a plain list. Nothing of the program is named here.
-/
namespace Go.Proofs.YtoopopjcojphaaaGreatDoor
section
variable {P : Program} {ops : Array Oper} {Q : Exit → Act → World → Prop} {md : Region.Mode} {S : World → Prop} {keep : Nat → Bool}
/-- Does j wait for i? -/
def needs (md : Region.Mode) (ops : Array Oper) : Nat → Nat → Nat → Bool
  | 0, _, _ => false
  | n + 1, j, i => match ops[j]? with
    | none => false
    | some o => o.after.any fun e => Region.binds md e && (e.on == i || needs md ops n e.on i)
def Closed (md : Region.Mode) (ops : Array Oper) (listed : Array Bool) : Prop := ∀ k o, ops[k]? = some o → listed.getD k false = true → ∀ e ∈ o.after, Region.binds md e = true → listed.getD e.on false = true
def closedB (md : Region.Mode) (ops : Array Oper) (listed : Array Bool) : Bool := (List.range ops.size).all fun k => match ops[k]? with
  | none => true
  | some o => !listed.getD k false || o.after.all fun e => !Region.binds md e || listed.getD e.on false
theorem closed_of {listed : Array Bool} (h : closedB md ops listed = true) : Closed md ops listed := fun k o hk hl e he hb => by
  have hlt : k < ops.size := (Array.getElem?_eq_some_iff.1 hk).1
  have h1 := List.all_eq_true.1 h k (List.mem_range.2 hlt)
  simp only [hk, hl, Bool.not_true, Bool.false_or] at h1
  have h2 := Array.all_eq_true_iff_forall_mem.1 h1 e he
  simpa [hb] using h2
theorem getD_true_of {l : Array Bool} {i : Nat} (h : l.getD i false = true) : l.getD i true = true := by
  rcases Nat.lt_or_ge i l.size with h' | h'
  · simp [h'] at h ⊢; exact h
  · simp [Array.getElem?_eq_none h'] at h
theorem Closed.set {listed : Array Bool} (h : Closed md ops listed) {j : Nat} (hj : j ∈ Region.ready md ops listed) : Closed md ops (listed.setIfInBounds j true) := fun k o hk hl e he hb => by
  obtain ⟨_, oj, hoj, hall⟩ := mem_ready.1 hj
  refine getD_set_true ?_
  by_cases hkj : j = k
  · subst hkj
    obtain rfl : oj = o := Option.some.inj (hoj.symm.trans hk)
    exact hall e he hb
  · rw [getD_set_ne false hkj] at hl
    exact h k o hk hl e he hb
theorem needs_listed {listed : Array Bool} (h : Closed md ops listed) {i : Nat} : ∀ n j, needs md ops n j i = true → listed.getD j false = true → listed.getD i false = true
  | 0, _, hn, _ => by cases hn
  | n + 1, j, hn, hl => by
    unfold needs at hn
    cases ho : ops[j]? with
    | none => simp [ho] at hn
    | some o =>
      simp only [ho, Array.any_eq_true', Bool.and_eq_true, Bool.or_eq_true, beq_iff_eq] at hn
      obtain ⟨e, he, hb, hor⟩ := hn
      have h1 := h j o ho hl e he hb
      rcases hor with rfl | hor
      · exact h1
      · exact needs_listed h n e.on hor h1
theorem needs_not {listed : Array Bool} (h : Closed md ops listed) {i j n : Nat} (hn : needs md ops n j i = true) (hj : j ∈ Region.ready md ops listed) (hi : i ∈ Region.ready md ops listed) : False := by
  have h0 := (mem_ready.1 hi).1
  obtain ⟨_, o, ho, hall⟩ := mem_ready.1 hj
  have key : listed.getD i false = true := by
    cases n with
    | zero => cases hn
    | succ n =>
      unfold needs at hn
      simp only [ho, Array.any_eq_true', Bool.and_eq_true, Bool.or_eq_true, beq_iff_eq] at hn
      obtain ⟨e, he, hb, hor⟩ := hn
      have h1 := hall e he hb
      rcases hor with rfl | hor
      · exact h1
      · exact needs_listed h n e.on hor h1
  rw [getD_true_of key] at h0
  cases h0

/-- Whatever order is picked from here on; behind each operation of those that keep S, S holds. -/
def wpK (P : Program) (md : Region.Mode) (ops : Array Oper) (Q : Exit → Act → World → Prop) (S : World → Prop) (keep : Nat → Bool) : Nat → Array Bool → Act → World → Prop
  | 0, listed, a, w => Region.ready md ops listed = [] ∧ Q .normal a w
  | fuel + 1, listed, a, w => (Region.ready md ops listed = [] → Q .normal a w) ∧
    ∀ i ∈ Region.ready md ops listed, wpOp P ops Q i (fun a' w' => (keep i = true → S w → S w') ∧ wpK P md ops Q S keep fuel (listed.setIfInBounds i true) a' w') a w
theorem wpAny_of_K : ∀ (fuel : Nat) (listed : Array Bool) (a : Act) (w : World), wpK P md ops Q S keep fuel listed a w → wpAny P md ops Q fuel listed a w
  | 0, _, _, _, h => h
  | fuel + 1, _, _, _, h => ⟨h.1, fun i hi => wpOp_mono (fun a' w' h' => wpAny_of_K fuel _ a' w' h'.2) (h.2 i hi)⟩

theorem wpK_first {S' : World → Prop} {i : Nat} {oi : Oper} {v : Value} (hi : ops[i]? = some oi) (hsel : ∀ (j : Nat) (o : Oper) cs b, ops[j]? = some o → o.op ≠ .select cs b)
    (hQ : ∀ c a w, Q (.panic c) (a.put oi.dst v) w → Q (.panic c) a w)
    (hkeep : (∀ w, S' w) ∨ (S' = S ∧ ∀ j, j < ops.size → j ≠ i → keep j = false → ∃ n, needs md ops n j i = true)) :
    ∀ (fuel : Nat) (listed : Array Bool) (a : Act) (w : World), Closed md ops listed →
      (∀ j oj, ops[j]? = some oj → j ≠ i → listed.getD j true = false → (∀ e ∈ oj.after, Region.binds md e = true → e.on ≠ i) → oi.apart ops oj = true) →
      i ∈ Region.ready md ops listed → YieldsIf P ops S' oi v a → S' w →
      wpK P md ops Q S keep fuel (listed.setIfInBounds i true) (a.put oi.dst v) w → wpK P md ops Q S keep (fuel + 1) listed a w := by
  intro fuel
  induction fuel with
  | zero =>
    intro listed a w _ _ hr hy hS H
    refine ⟨fun h => (by rw [h] at hr; cases hr), fun j hj => ?_⟩
    by_cases hji : j = i
    · subst hji; exact hy.wpOp hi hS ⟨fun _ h => h, H⟩
    · have := ready_mono hj hji
      rw [H.1] at this
      cases this
  | succ fuel ih =>
    intro listed a w hcl hfree hr hy hS H
    refine ⟨fun h => (by rw [h] at hr; cases hr), fun j hj => ?_⟩
    by_cases hji : j = i
    · subst hji; exact hy.wpOp hi hS ⟨fun _ h => h, H⟩
    · have h1 := H.2 j (ready_mono hj hji)
      obtain ⟨hjun, oj, hoj, hall⟩ := mem_ready.1 hj
      have hnot : ∀ e ∈ oj.after, Region.binds md e = true → e.on ≠ i := fun e he hb heq => by
        have h1 := hall e he hb
        have h0 := (mem_ready.1 hr).1
        rw [heq] at h1
        rw [getD_true_of h1] at h0
        cases h0
      have h2 := wpOp_putIf hoj (hfree j oj hoj hji hjun hnot) (fun cs b => hsel i oi cs b hi) (fun cs b => hsel j oj cs b hoj) hQ hy h1
      have hfree' : ∀ k ok, ops[k]? = some ok → k ≠ i → (listed.setIfInBounds j true).getD k true = false →
          (∀ e ∈ ok.after, Region.binds md e = true → e.on ≠ i) → oi.apart ops ok = true := fun k ok hk hki hun hno => by
        refine hfree k ok hk hki ?_ hno
        by_cases hjk : j = k
        · subst hjk; exact hjun
        · rw [getD_set_ne true hjk] at hun; exact hun
      have hW : ∀ w', (keep j = true → S w → S w') → S' w' := fun w' hk => by
        rcases hkeep with h | ⟨rfl, h⟩
        · exact h _
        · cases hkj : keep j with
          | true => exact hk hkj hS
          | false =>
            obtain ⟨n, hn⟩ := h j (Array.getElem?_eq_some_iff.1 hoj).1 hji hkj
            exact (needs_not hcl hn hj hr).elim
      refine wpOp_mono (fun a' w' h3 => ⟨h3.2.1, ih (listed.setIfInBounds j true) a' w' (hcl.set hj) hfree' (ready_mono hr (Ne.symm hji)) h3.1 (hW w' h3.2.1) ?_⟩) h2
      rw [Array.setIfInBounds_comm _ _ hji]
      exact h3.2.2
def waitAll (md : Region.Mode) (ops : Array Oper) (keep : Nat → Bool) (i : Nat) : Bool := (List.range ops.size).all fun j => j == i || keep j || needs md ops ops.size j i
theorem waitAll_spec {i : Nat} (h : waitAll md ops keep i = true) : ∀ j, j < ops.size → j ≠ i → keep j = false → ∃ n, needs md ops n j i = true := fun j hj hji hk => by
  have := List.all_eq_true.1 h j (List.mem_range.2 hj)
  simp only [Bool.or_eq_true, beq_iff_eq, hk, Bool.false_eq_true, or_false] at this
  exact ⟨_, this.resolve_left hji⟩
/-- Operation i comes next: it yields v in every world that meets S. -/
theorem wpK_take (i : Nat) {dst : Option Tmp} {op : Op} {type : TypeId} {pos : String} {after : Array Edge} {guard : Option (Nat × Bool)} {v : Value} {fuel : Nat} {listed : Array Bool} {a a' : Act} {w : World} (hi : ops.toList[i]? = some (Oper.mk dst op type pos after guard))
    (hs : Region.noSelect ops = true) (hcl : closedB md ops listed = true) (hwt : waitAll md ops keep i = true) (hf : Region.free md ops listed i = true) (hr : (Region.ready md ops listed).contains i = true)
    (hQ : ∀ (c : List PanicEntry) (a : Act) (w : World), Q (.panic c) (a.put dst v) w → Q (.panic c) a w) (hS : S w)
    (hy : YieldsIf P ops S (Oper.mk dst op type pos after guard) v a) (ha : a.put dst v = a')
    (h : wpK P md ops Q S keep fuel (listed.setIfInBounds i true) a' w) : wpK P md ops Q S keep (fuel + 1) listed a w :=
  wpK_first (by rw [← hi]; simp) (Region.noSelect_spec hs) hQ (.inr ⟨rfl, waitAll_spec hwt⟩) fuel listed a w (closed_of hcl) (Region.free_spec (by rw [← hi]; simp) hf) (by simpa using hr) hy hS (by rw [show (Oper.mk dst op type pos after guard).dst = dst from rfl, ha]; exact h)
/-- Operation i comes next: it yields v in every world. -/
theorem wpK_take0 (i : Nat) {dst : Option Tmp} {op : Op} {type : TypeId} {pos : String} {after : Array Edge} {guard : Option (Nat × Bool)} {v : Value} {fuel : Nat} {listed : Array Bool} {a a' : Act} {w : World} (hi : ops.toList[i]? = some (Oper.mk dst op type pos after guard))
    (hs : Region.noSelect ops = true) (hcl : closedB md ops listed = true) (hf : Region.free md ops listed i = true) (hr : (Region.ready md ops listed).contains i = true)
    (hQ : ∀ (c : List PanicEntry) (a : Act) (w : World), Q (.panic c) (a.put dst v) w → Q (.panic c) a w)
    (hy : YieldsIf P ops (fun _ => True) (Oper.mk dst op type pos after guard) v a) (ha : a.put dst v = a')
    (h : wpK P md ops Q S keep fuel (listed.setIfInBounds i true) a' w) : wpK P md ops Q S keep (fuel + 1) listed a w :=
  wpK_first (by rw [← hi]; simp) (Region.noSelect_spec hs) hQ (.inl fun _ => trivial) fuel listed a w (closed_of hcl) (Region.free_spec (by rw [← hi]; simp) hf) (by simpa using hr) hy trivial (by rw [show (Oper.mk dst op type pos after guard).dst = dst from rfl, ha]; exact h)
/-- Only i can come up: it is walked as a plain list of one. -/
theorem wpK_one (i : Nat) {o : Oper} {fuel : Nat} {listed : Array Bool} {a : Act} {w : World} (hi : ops.toList[i]? = some o) (hr : Region.ready md ops listed = [i])
    (h : ∀ K : Act → World → Prop, (∀ a' w', (keep i = true → S w → S w') → wpK P md ops Q S keep fuel (listed.setIfInBounds i true) a' w' → K a' w') → wpList P ops (Exit.then K Q) [o] a w) : wpK P md ops Q S keep (fuel + 1) listed a w := by
  refine ⟨fun h0 => (by rw [hr] at h0; cases h0), fun j hj => ?_⟩
  rw [hr, List.mem_singleton] at hj
  subst hj
  have h1 := h _ fun a' w' h1 h2 => And.intro h1 h2
  have ho : ops[j]? = some o := by rw [← hi]; simp
  unfold wpOp
  simp only [ho]
  unfold wpList at h1
  have hpan : ∀ (K : Act → World → Prop) (e : Exit), e ≠ .normal → (Exit.then K Q) e = Q e := fun K e he => by cases e <;> first | exact absurd rfl he | rfl
  by_cases hw : Region.wanted o (yielded ops a.tmps) = true
  · simp only [hw, if_true] at h1 ⊢
    rcases h1 with h1 | h1
    · refine .inl ?_
      unfold Oper.wp at *
      generalize (execOp a.eval o).run P w = r at *
      cases r with
      | ok n w' =>
        cases n <;> simp only [Oper.upon, wpList] at h1 ⊢
        case value u => exact h1
        case skip => exact h1
        case defer d => exact h1
        case enter f args =>
          refine Calls.mono h1 fun e w'' he => ?_
          cases e with
          | returned u => exact he
          | panicked c => exact he
          | outgrown => exact he
        case row row args => exact Rows.mono h1 fun u w'' he => he
      | halt x w' => cases x <;> simp only [Oper.upon] at h1 ⊢ <;> exact h1
    · exact .inr ⟨h1.1, h1.2⟩
  · simp only [hw] at h1 ⊢
    exact h1
theorem wpOp_of_list {j : Nat} {o : Oper} {a : Act} {w : World} {K : Act → World → Prop} (ho : ops[j]? = some o) (h1 : wpList P ops (Exit.then K Q) [o] a w) : wpOp P ops Q j K a w := by
  unfold wpOp
  simp only [ho]
  unfold wpList at h1
  by_cases hw : Region.wanted o (yielded ops a.tmps) = true
  · simp only [hw, if_true] at h1 ⊢
    rcases h1 with h1 | h1
    · refine .inl ?_
      unfold Oper.wp at *
      generalize (execOp a.eval o).run P w = r at *
      cases r with
      | ok n w' =>
        cases n <;> simp only [Oper.upon, wpList] at h1 ⊢
        case value u => exact h1
        case skip => exact h1
        case defer d => exact h1
        case enter f args =>
          refine Calls.mono h1 fun e w'' he => ?_
          cases e with
          | returned u => exact he
          | panicked c => exact he
          | outgrown => exact he
        case row row args => exact Rows.mono h1 fun u w'' he => he
      | halt x w' => cases x <;> simp only [Oper.upon] at h1 ⊢ <;> exact h1
    · exact .inr ⟨h1.1, h1.2⟩
  · simp only [hw] at h1 ⊢
    exact h1
/-- One of two comes up. -/
theorem wpK_two (i j : Nat) {oi oj : Oper} {fuel : Nat} {listed : Array Bool} {a : Act} {w : World} (hi : ops.toList[i]? = some oi) (hj : ops.toList[j]? = some oj) (hr : Region.ready md ops listed = [i, j])
    (h1 : ∀ K : Act → World → Prop, (∀ a' w', (keep i = true → S w → S w') → wpK P md ops Q S keep fuel (listed.setIfInBounds i true) a' w' → K a' w') → wpList P ops (Exit.then K Q) [oi] a w)
    (h2 : ∀ K : Act → World → Prop, (∀ a' w', (keep j = true → S w → S w') → wpK P md ops Q S keep fuel (listed.setIfInBounds j true) a' w' → K a' w') → wpList P ops (Exit.then K Q) [oj] a w) : wpK P md ops Q S keep (fuel + 1) listed a w := by
  refine ⟨fun h0 => (by rw [hr] at h0; cases h0), fun k hk => ?_⟩
  rw [hr] at hk
  rcases List.mem_cons.1 hk with rfl | hk
  · exact wpOp_of_list (by rw [← hi]; simp) (h1 _ fun a' w' h1 h2 => And.intro h1 h2)
  · rw [List.mem_singleton.1 hk]
    exact wpOp_of_list (by rw [← hj]; simp) (h2 _ fun a' w' h1 h2 => And.intro h1 h2)
theorem wpK_end {listed : Array Bool} {a : Act} {w : World} (hr : (Region.ready md ops listed).isEmpty = true) (h : Q .normal a w) : ∀ fuel, wpK P md ops Q S keep fuel listed a w
  | 0 => ⟨by simpa using hr, h⟩
  | _ + 1 => ⟨fun _ => h, by rw [show Region.ready md ops listed = [] by simpa using hr]; simp⟩
/-- THE BEGINNING. -/
theorem wp_region_K (S : World → Prop) (keep : Nat → Bool) {id : Nat} {a : Act} {w : World} (hm : P.follows .mixedOrders = true)
    (h : wpK P .any ops Q S keep ops.size (Array.replicate ops.size false) a { w with drawn := w.drawn + 1 }) : (Code.region id ops true).wp P Q a w :=
  wp_region_any hm (wpAny_of_K _ _ _ _ h)
end
end Go.Proofs.YtoopopjcojphaaaGreatDoor
/-
  PLAIN MATHEMATICS OF NAMES. Nothing of the program is named here.
-/
namespace Go.Proofs.YtoopopjcojphaaaGreatDoor
/-- The byte at i; 256 behind the end. -/
def bt (s : ByteArray) (i : Nat) : Nat := if h : i < s.size then s[i].toNat else 256
theorem bt_in {s : ByteArray} {i : Nat} (h : i < s.size) : bt s i = s[i].toNat := by simp [bt, h]
def restB (c : Nat) : Bool := decide ((97 ≤ c ∧ c ≤ 122) ∨ (65 ≤ c ∧ c ≤ 90) ∨ (48 ≤ c ∧ c ≤ 57) ∨ c = 95 ∨ c = 39)
def letB (c : Nat) (cap : Bool) : Bool := if cap then decide (65 ≤ c ∧ c ≤ 90) else decide ((97 ≤ c ∧ c ≤ 122) ∨ c = 95)
def shapedB (s : ByteArray) (cap : Bool) : Bool := decide (1 ≤ s.size) && decide (s.size ≤ 32) && letB (bt s 0) cap && (List.range s.size).all fun i => i == 0 || restB (bt s i)
def wordsL : List ByteArray := [⟨#[97, 110, 100]⟩, ⟨#[97, 110, 100, 97, 108, 115, 111]⟩, ⟨#[97, 115]⟩, ⟨#[99, 97, 115, 101]⟩, ⟨#[100, 97, 116, 97, 116, 121, 112, 101]⟩, ⟨#[100, 105, 118]⟩, ⟨#[101, 108, 115, 101]⟩, ⟨#[101, 110, 100]⟩, ⟨#[101, 120, 99, 101, 112, 116, 105, 111, 110]⟩, ⟨#[102, 110]⟩, ⟨#[102, 117, 110]⟩, ⟨#[104, 97, 110, 100, 108, 101]⟩, ⟨#[105, 102]⟩, ⟨#[105, 110]⟩, ⟨#[108, 101, 116]⟩, ⟨#[109, 111, 100]⟩, ⟨#[111, 102]⟩, ⟨#[111, 114, 101, 108, 115, 101]⟩, ⟨#[112, 114, 105, 110, 116]⟩, ⟨#[114, 97, 105, 115, 101]⟩, ⟨#[114, 101, 97, 100]⟩, ⟨#[114, 101, 102]⟩, ⟨#[116, 104, 101, 110]⟩, ⟨#[118, 97, 108]⟩]
def lowB (s : ByteArray) : Bool := shapedB s false && decide (s ≠ ⟨#[95]⟩) && decide (s ≠ ⟨#[116, 114, 117, 101]⟩) && decide (s ≠ ⟨#[102, 97, 108, 115, 101]⟩) && !wordsL.any fun t => decide (t = s)
def argsB (s : ByteArray) : Int × Int := if s = ⟨#[105, 110, 116]⟩ ∨ s = ⟨#[98, 111, 111, 108]⟩ ∨ s = ⟨#[117, 110, 105, 116]⟩ ∨ s = ⟨#[101, 120, 110]⟩ then (0, 0) else if s = ⟨#[114, 101, 102]⟩ then (1, 1) else if s = ⟨#[45, 62]⟩ then (2, 2) else if s = ⟨#[42]⟩ then (2, 8) else (0, 8)
end Go.Proofs.YtoopopjcojphaaaGreatDoor
/-
  PLAIN MATHEMATICS OF TYPES: a type as a tree, its nodes in order, a walk over them that may stop. Nothing of the program is named here.
-/
namespace Go.Proofs.YtoopopjcojphaaaGreatDoor

/-- A type: kind, number, name, arguments. -/
inductive Tt where
  | mk (k n : Int) (s : ByteArray) (l : List Tt)
def Tt.kind : Tt → Int | .mk k _ _ _ => k
def Tt.num : Tt → Int | .mk _ n _ _ => n
def Tt.name : Tt → ByteArray | .mk _ _ s _ => s
def Tt.args : Tt → List Tt | .mk _ _ _ l => l
theorem Tt.eta (t : Tt) : Tt.mk t.kind t.num t.name t.args = t := by cases t; rfl
mutual
/-- The nodes, each before its arguments'. -/
def pre : Tt → List Tt
  | .mk k n s l => .mk k n s l :: preL l
def preL : List Tt → List Tt
  | [] => []
  | t :: r => pre t ++ preL r
end
mutual
/-- All that a type holds: nodes and letters. -/
def bulk : Tt → Nat
  | .mk _ _ s l => s.size + 4 + bulkL l
def bulkL : List Tt → Nat
  | [] => 0
  | t :: r => bulk t + bulkL r
end
theorem preL_append (a b : List Tt) : preL (a ++ b) = preL a ++ preL b := by
  induction a with
  | nil => rfl
  | cons t r ih => simp [preL, ih]
theorem preL_snoc (a : List Tt) (t : Tt) : preL (a ++ [t]) = preL a ++ pre t := by rw [preL_append]; simp [preL]
theorem preL_take (l : List Tt) (k : Nat) (h : k < l.length) : preL (l.take (k + 1)) = preL (l.take k) ++ pre l[k] := by
  rw [List.take_succ_eq_append_getElem h, preL_snoc]
theorem bulkL_append (a b : List Tt) : bulkL (a ++ b) = bulkL a + bulkL b := by
  induction a with
  | nil => simp [bulkL]
  | cons t r ih => simp only [List.cons_append, bulkL, ih]; omega
theorem bulkL_take (l : List Tt) (k : Nat) (h : k < l.length) : bulkL (l.take (k + 1)) = bulkL (l.take k) + bulk l[k] := by
  rw [List.take_succ_eq_append_getElem h, bulkL_append]; simp [bulkL]
theorem bulk_mem {l : List Tt} {t : Tt} (h : t ∈ l) : bulk t ≤ bulkL l := by
  induction l with
  | nil => cases h
  | cons x r ih =>
    rcases List.mem_cons.1 h with rfl | h
    · simp [bulkL]
    · have := ih h; simp [bulkL]; omega
theorem bulk_pos (t : Tt) : 4 ≤ bulk t := by cases t; simp only [bulk]; omega
theorem bulkL_len (l : List Tt) : 4 * l.length ≤ bulkL l := by
  induction l with
  | nil => simp
  | cons t r ih => have := bulk_pos t; simp only [bulkL, List.length_cons]; omega
mutual
theorem pre_le : ∀ t : Tt, 4 * (pre t).length ≤ bulk t
  | .mk k n s l => by have := preL_le l; simp only [pre, bulk, List.length_cons]; omega
theorem preL_le : ∀ l : List Tt, 4 * (preL l).length ≤ bulkL l
  | [] => by simp [preL]
  | t :: r => by have := pre_le t; have := preL_le r; simp only [preL, bulkL, List.length_append]; omega
end
mutual
theorem pre_bulk : ∀ (t u : Tt), u ∈ pre t → bulk u ≤ bulk t
  | .mk k n s l, u, h => by
    simp only [pre] at h
    rcases List.mem_cons.1 h with rfl | h
    · exact Nat.le_refl _
    · have := preL_bulk l u h; simp only [bulk]; omega
theorem preL_bulk : ∀ (l : List Tt) (u : Tt), u ∈ preL l → bulk u ≤ bulkL l
  | [], u, h => by simp [preL] at h
  | t :: r, u, h => by
    simp only [preL] at h
    rcases List.mem_append.1 h with h | h
    · have := pre_bulk t u h; simp only [bulkL]; omega
    · have := preL_bulk r u h; simp only [bulkL]; omega
end

theorem mem_preL {l : List Tt} {t u : Tt} (ht : t ∈ l) (hu : u ∈ pre t) : u ∈ preL l := by
  induction l with
  | nil => cases ht
  | cons x r ih =>
    simp only [preL]
    rcases List.mem_cons.1 ht with rfl | ht
    · exact List.mem_append_left _ hu
    · exact List.mem_append_right _ (ih ht)
/-! ### A walk that may stop -/
section
variable {σ α : Type} (step : σ → α → σ × Bool)
def scan : σ → List α → σ × Bool
  | s, [] => (s, true)
  | s, t :: r => if (step s t).2 = true then scan (step s t).1 r else ((step s t).1, false)
theorem scan_nil (s : σ) : scan step s [] = (s, true) := rfl
theorem scan_yes {s : σ} {t : α} (h : (step s t).2 = true) (r : List α) : scan step s (t :: r) = scan step (step s t).1 r := by simp [scan, h]
theorem scan_no {s : σ} {t : α} (h : (step s t).2 = false) (r : List α) : scan step s (t :: r) = ((step s t).1, false) := by simp [scan, h]
theorem scan_append (a b : List α) (s : σ) : scan step s (a ++ b) = if (scan step s a).2 = true then scan step (scan step s a).1 b else scan step s a := by
  induction a generalizing s with
  | nil => rfl
  | cons t r ih =>
    by_cases h : (step s t).2 = true
    · rw [List.cons_append, scan_yes step h, scan_yes step h, ih]
    · have h' : (step s t).2 = false := by simpa using h
      rw [List.cons_append, scan_no step h', scan_no step h']; rfl
theorem scan_app_yes {a : List α} {s : σ} (b : List α) (h : (scan step s a).2 = true) : scan step s (a ++ b) = scan step (scan step s a).1 b := by rw [scan_append, if_pos h]
theorem scan_app_no {a : List α} {s : σ} (b : List α) (h : (scan step s a).2 = false) : scan step s (a ++ b) = scan step s a := by rw [scan_append, if_neg (by simp [h])]
/-- All that the walk comes to is good in the state in which it comes to it. -/
def goods (good : σ → α → Prop) : σ → List α → Prop
  | _, [] => True
  | s, t :: r => good s t ∧ ((step s t).2 = true → goods good (step s t).1 r)
theorem goods_append {good : σ → α → Prop} (a b : List α) (s : σ) : goods step good s (a ++ b) ↔ goods step good s a ∧ ((scan step s a).2 = true → goods step good (scan step s a).1 b) := by
  induction a generalizing s with
  | nil => simp [goods, scan]
  | cons t r ih =>
    by_cases h : (step s t).2 = true
    · simp only [List.cons_append, goods, scan_yes step h, h, true_imp_iff, ih, and_assoc]
    · have h' : (step s t).2 = false := by simpa using h
      simp [goods, scan_no step h', h']
theorem goods_of {good : σ → α → Prop} (m : σ → Nat) (M : Nat) (hm : ∀ s t, m (step s t).1 ≤ m s + 1) (hg : ∀ s t, m s + 1 ≤ M → good s t) : ∀ (l : List α) (s : σ), m s + l.length ≤ M → goods step good s l
  | [], _, _ => trivial
  | t :: r, s, h => ⟨hg s t (by simp at h; omega), fun _ => goods_of m M hm hg r _ (by have := hm s t; simp at h; omega)⟩
theorem goods_all {good : σ → α → Prop} (hg : ∀ s t, good s t) : ∀ (l : List α) (s : σ), goods step good s l
  | [], _ => trivial
  | t :: r, s => ⟨hg s t, fun _ => goods_all hg r _⟩
theorem scan_pre_no {t : Tt} {k n : Int} {nm : ByteArray} {l : List Tt} {step : σ → Tt → σ × Bool} {s : σ} (e : t = .mk k n nm l) (h : (step s t).2 = false) : scan step s (pre t) = ((step s t).1, false) := by
  subst e; simp only [pre]; exact scan_no step h _
end
/-! ### A copy, with something else in the place of each variable -/
mutual
def cp (g : Tt → Tt) : Tt → Tt
  | .mk k n s l => if k = 1 then g (.mk k n s (cpL g l)) else .mk k n s (cpL g l)
def cpL (g : Tt → Tt) : List Tt → List Tt
  | [] => []
  | t :: r => cp g t :: cpL g r
end
theorem cpL_map (g : Tt → Tt) (l : List Tt) : cpL g l = l.map (cp g) := by
  induction l with
  | nil => rfl
  | cons t r ih => simp [cpL, ih]
theorem cp_var {g : Tt → Tt} {k n : Int} {s : ByteArray} {l : List Tt} (h : k = 1) : cp g (.mk k n s l) = g (.mk k n s (l.map (cp g))) := by rw [cp, if_pos h, cpL_map]
theorem cp_con {g : Tt → Tt} {k n : Int} {s : ByteArray} {l : List Tt} (h : k ≠ 1) : cp g (.mk k n s l) = .mk k n s (l.map (cp g)) := by rw [cp, if_neg h, cpL_map]
theorem take_map {α β : Type} (f : α → β) (l : List α) (k : Nat) (h : k < l.length) : (l.take (k + 1)).map f = (l.take k).map f ++ [f l[k]] := by rw [List.take_succ_eq_append_getElem h, List.map_append]; rfl
mutual
theorem cp_id : ∀ t : Tt, cp id t = t
  | .mk k n s l => by rw [cp, cpL_id l]; split <;> rfl
theorem cpL_id : ∀ l : List Tt, cpL id l = l
  | [] => rfl
  | t :: r => by rw [cpL, cp_id t, cpL_id r]
end
/-! ### Are types the same? -/
mutual
def sameT : Tt → Tt → Bool
  | .mk k n s l, .mk k' n' s' l' => decide (k = k') && decide (n = n') && decide (s = s') && decide (l.length = l'.length) && sameL l l'
def sameL : List Tt → List Tt → Bool
  | [], _ => true
  | _ :: _, [] => true
  | a :: r, b :: q => sameT a b && sameL r q
end
mutual
theorem sameT_iff : ∀ a b : Tt, sameT a b = true ↔ a = b
  | .mk k n s l, .mk k' n' s' l' => by
    simp only [sameT, Bool.and_eq_true, decide_eq_true_eq, Tt.mk.injEq]
    constructor
    · rintro ⟨⟨⟨⟨h1, h2⟩, h3⟩, h4⟩, h5⟩
      exact ⟨h1, h2, h3, (sameL_iff l l' h4).1 h5⟩
    · rintro ⟨h1, h2, h3, h4⟩
      exact ⟨⟨⟨⟨h1, h2⟩, h3⟩, by rw [h4]⟩, (sameL_iff l l' (by rw [h4])).2 h4⟩
theorem sameL_iff : ∀ a b : List Tt, a.length = b.length → (sameL a b = true ↔ a = b)
  | [], [], _ => by simp [sameL]
  | [], _ :: _, h => by simp at h
  | _ :: _, [], h => by simp at h
  | a :: r, b :: q, h => by
    simp only [sameL, Bool.and_eq_true, List.cons.injEq]
    rw [sameT_iff a b, sameL_iff r q (by simpa using h)]
end
theorem sameT_refl (a : Tt) : sameT a a = true := (sameT_iff a a).2 rfl
theorem sameL_take {l m : List Tt} {k : Nat} (h1 : k < l.length) (h2 : k < m.length) (h : sameL (l.take k) (m.take k) = true) : sameL (l.take (k + 1)) (m.take (k + 1)) = sameT l[k] m[k] := by
  induction l generalizing m k with
  | nil => simp at h1
  | cons a r ih =>
    cases m with
    | nil => simp at h2
    | cons b q =>
      cases k with
      | zero => simp [sameL]
      | succ k =>
        simp only [List.take_succ_cons, sameL, Bool.and_eq_true] at h
        simp only [List.take_succ_cons, sameL, h.1, Bool.true_and, List.getElem_cons_succ]
        exact ih (by simpa using h1) (by simpa using h2) h.2
theorem sameL_stop {l m : List Tt} {k : Nat} (h : sameL (l.take k) (m.take k) = false) : sameL l m = false := by
  induction l generalizing m k with
  | nil => simp [sameL] at h
  | cons a r ih =>
    cases m with
    | nil => cases k <;> simp [sameL] at h
    | cons b q =>
      cases k with
      | zero => simp [sameL] at h
      | succ k =>
        simp only [List.take_succ_cons, sameL, Bool.and_eq_false_iff] at h ⊢
        exact h.imp id fun h => ih h
/-! ### Variables, as they come first -/
def vstep (vs : List Int) (t : Tt) : List Int × Bool := (if t.kind = 1 ∧ t.num ∉ vs then vs ++ [t.num] else vs, true)
def varsT (t : Tt) : List Int := (scan vstep [] (pre t)).1
theorem scan_true {σ α : Type} {step : σ → α → σ × Bool} (h : ∀ s a, (step s a).2 = true) : ∀ (l : List α) (s : σ), (scan step s l).2 = true
  | [], _ => rfl
  | a :: r, s => by rw [scan_yes step (h s a)]; exact scan_true h r _
theorem goods_kid {σ : Type} {step : σ → Tt → σ × Bool} {good : σ → Tt → Prop} {s : σ} {l : List Tt} {k : Nat} (hk : k < l.length) (h : goods step good s (preL l)) (hy : (scan step s (preL (l.take k))).2 = true) : goods step good (scan step s (preL (l.take k))).1 (pre l[k]) := by
  have e : l = l.take k ++ (l[k] :: l.drop (k + 1)) := by rw [List.getElem_cons_drop, List.take_append_drop]
  rw [e, preL_append, goods_append] at h
  have h2 := h.2 hy
  rw [preL, goods_append] at h2
  exact h2.1
/-! ### Is a node right? -/
def goodB (t : Tt) : Bool :=
  if t.kind = 1 then decide (0 ≤ t.num) && decide (t.name = ⟨#[]⟩) && decide (t.args.length = 0)
  else if t.kind ≠ 2 ∨ t.num ≠ 0 then false
  else if t.name ≠ ⟨#[114, 101, 102]⟩ ∧ t.name ≠ ⟨#[45, 62]⟩ ∧ t.name ≠ ⟨#[42]⟩ ∧ lowB t.name = false then false
  else decide ((argsB t.name).1 ≤ t.args.length) && decide ((t.args.length : Int) ≤ (argsB t.name).2)
def formedT (t : Tt) : Bool := (pre t).all goodB
/-! ### The reference's places, Put, renamed -/
def placeR (vs : List Int) (x : Int) : Int := if x ∈ vs then vs.idxOf x else -1
theorem vstep_take {P : List Tt} {j : Nat} (h : j < P.length) : (scan vstep [] (P.take (j + 1))).1 = (vstep (scan vstep [] (P.take j)).1 P[j]).1 := by
  rw [List.take_succ_eq_append_getElem h, scan_app_yes vstep _ (scan_true (fun _ _ => rfl) _ _), scan_yes vstep rfl]; rfl
theorem vscan_le (P : List Tt) : ∀ (s : List Int), (scan vstep s P).1.length ≤ s.length + P.length := by
  induction P with
  | nil => intro s; simp [scan]
  | cons a r ih =>
    intro s
    rw [scan_yes vstep rfl]
    have h1 := ih (vstep s a).1
    have h2 : (vstep s a).1.length ≤ s.length + 1 := by unfold vstep; simp only; split <;> simp
    simp; omega
mutual
def rputT (ls : List Tt) : Tt → Tt
  | .mk k n s l => if k = 1 then (if h : 0 ≤ n ∧ n < ls.length then ls[n.toNat]'(by omega) else .mk k n s l) else .mk k n s (rputL ls l)
def rputL (ls : List Tt) : List Tt → List Tt
  | [] => []
  | t :: r => rputT ls t :: rputL ls r
end
theorem rputL_map (ls : List Tt) (l : List Tt) : rputL ls l = l.map (rputT ls) := by
  induction l with
  | nil => rfl
  | cons t r ih => simp [rputL, ih]
theorem rput_con {ls : List Tt} {k n : Int} {s : ByteArray} {l : List Tt} (h : k ≠ 1) : rputT ls (.mk k n s l) = .mk k n s (l.map (rputT ls)) := by rw [rputT, if_neg h, rputL_map]
mutual
def renT (vs : List Int) : Tt → Tt
  | .mk k n s l => if k = 1 then .mk 1 (placeR vs n) ⟨#[]⟩ [] else .mk k n s (renL vs l)
def renL (vs : List Int) : List Tt → List Tt
  | [] => []
  | t :: r => renT vs t :: renL vs r
end
theorem renL_map (vs : List Int) (l : List Tt) : renL vs l = l.map (renT vs) := by
  induction l with
  | nil => rfl
  | cons t r ih => simp [renL, ih]
theorem ren_con {vs : List Int} {k n : Int} {s : ByteArray} {l : List Tt} (h : k ≠ 1) : renT vs (.mk k n s l) = .mk k n s (l.map (renT vs)) := by rw [renT, if_neg h, renL_map]
end Go.Proofs.YtoopopjcojphaaaGreatDoor
