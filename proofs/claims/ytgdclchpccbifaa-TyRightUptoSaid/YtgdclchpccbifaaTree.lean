/-
  READINGS OF TREES, FOR ANY TYPE OF ELEMENT: what a row of cells reads as, which blocks the reading goes through, rows of such elements, rows that the call made itself. Nothing of the program is named here.
-/
import Derived.Test.YtgdclchpccbifaaKit
import Derived.Test.YtgdclchpccbifaaInts
import Derived.Deep.MidRow
import Derived.Maps.AppendAt
import Derived.OwnWalk
namespace Go.Proofs.Ytgdclchpccbifaa
open Go.ChangeShapes Go.WideShapes Go.ChangeAt Go.RowKit
/-- In the blocks of S all cells are as they were. -/
def Same (S : Nat → Prop) (w w' : World) : Prop := ∀ b o, S b → w'.cell? ⟨b, o, none⟩ = w.cell? ⟨b, o, none⟩
def Lt (B : Nat) : Nat → Prop := fun b => b < B
def New (B : Nat) (w : World) : Nat → Prop := fun b => B ≤ b ∧ b < w.heap.size
theorem Same.refl (S : Nat → Prop) (w : World) : Same S w w := fun _ _ _ => rfl
theorem Same.trans {S : Nat → Prop} {a b c : World} (h : Same S a b) (k : Same S b c) : Same S a c := fun x o hx => (k x o hx).trans (h x o hx)
theorem Same.of_below {S : Nat → Prop} {B : Nat} {w w' : World} (hb : Below B w w') (h : ∀ b, S b → b < B) : Same S w w' := fun b o hS => hb.cell (p := ⟨b, o, none⟩) (h b hS)
theorem Same.lt {B : Nat} {w w' : World} (hb : Below B w w') : Same (Lt B) w w' := .of_below hb fun _ h => h
theorem Same.grown {S : Nat → Prop} {w w' : World} {row : Option Nat} (hg : w.grownBy w' row) (h : ∀ b, S b → b < w.heap.size ∧ row ≠ some b) : Same S w w' := fun b o hS => by
  obtain ⟨h1, h2⟩ := h b hS
  exact World.cell?_of_block (a := ⟨b, o, none⟩) (hg.block b h1 (fun e => h2 e.symm))
theorem range_keep {w w' : World} {b o B : Nat} {cs : List Value} (h : w.rangeAt b o cs) (hb : Below B w w') (hB : b < B) : w'.rangeAt b o cs := fun j v hv => (hb.cell (p := ⟨b, o + j, none⟩) hB).trans (h j v hv)
theorem range_same {w w' : World} {S : Nat → Prop} {b o : Nat} {cs : List Value} (h : w.rangeAt b o cs) (hs : Same S w w') (hb : S b) : w'.rangeAt b o cs := fun j v hv => (hs b (o + j) hb).trans (h j v hv)

/-- What cells read as, through which blocks. -/
structure Reading (α : Type) where
  rd : World → (Nat → Prop) → α → List Value → Prop
  keep : ∀ {w w' : World} {S : Nat → Prop} {a : α} {cs : List Value}, Same S w w' → rd w S a cs → rd w' S a cs
  more : ∀ {w : World} {S S' : Nat → Prop} {a : α} {cs : List Value}, (∀ b, S b → S' b) → rd w S a cs → rd w S' a cs

section
variable {α : Type} {R : Reading α} {w w' : World} {S S' : Nat → Prop} {sz base : Nat} {e : TypeId} {A : Option Addr} {l : List α} {v : Value}
/-- From A on lie the elements of l, sz cells each. -/
def Rows (R : Reading α) (sz : Nat) (w : World) (S : Nat → Prop) (A : Option Addr) (l : List α) : Prop :=
  ∀ (i : Nat) (a : α), l[i]? = some a → ∃ b o cs, A = some ⟨b, o, none⟩ ∧ S b ∧ w.rangeAt b (o + i * sz) cs ∧ R.rd w S a cs
theorem Rows.nil : Rows R sz w S A [] := fun i a h => by simp at h
theorem Rows.keep (h : Rows R sz w S A l) (hs : Same S w w') : Rows R sz w' S A l := fun i a ha => by
  obtain ⟨b, o, cs, e, hS, hr, hd⟩ := h i a ha
  exact ⟨b, o, cs, e, hS, range_same hr hs hS, R.keep hs hd⟩
theorem Rows.more (h : Rows R sz w S A l) (hs : ∀ b, S b → S' b) : Rows R sz w S' A l := fun i a ha => by
  obtain ⟨b, o, cs, e, hS, hr, hd⟩ := h i a ha
  exact ⟨b, o, cs, e, hs b hS, hr, R.more hs hd⟩
theorem Rows.at_ (h : Rows R sz w S A l) {i : Nat} (hi : i < l.length) : ∃ b o cs, A = some ⟨b, o, none⟩ ∧ S b ∧ w.rangeAt b (o + i * sz) cs ∧ R.rd w S l[i] cs := h i _ (List.getElem?_eq_getElem hi)

theorem flat_len {rows : List (List Value)} (h : ∀ r ∈ rows, r.length = sz) : rows.flatten.length = rows.length * sz := by
  induction rows with
  | nil => simp
  | cons r t ih =>
    rw [List.flatten_cons, List.length_append, ih fun x hx => h x (List.mem_cons_of_mem _ hx), h r (List.mem_cons_self ..), List.length_cons, Nat.add_mul]; omega
theorem flat_get {rows : List (List Value)} (h : ∀ r ∈ rows, r.length = sz) {i : Nat} {r : List Value} (hi : rows[i]? = some r) {j : Nat} {u : Value} (hj : r[j]? = some u) : rows.flatten[i * sz + j]? = some u := by
  induction rows generalizing i with
  | nil => simp at hi
  | cons x t ih =>
    have hx := h x (List.mem_cons_self ..)
    cases i with
    | zero =>
      simp at hi; subst hi
      rw [List.flatten_cons, Nat.zero_mul, Nat.zero_add, List.getElem?_append_left (List.getElem?_eq_some_iff.1 hj).1]; exact hj
    | succ i =>
      rw [List.getElem?_cons_succ] at hi
      rw [List.flatten_cons, List.getElem?_append_right (by rw [hx, Nat.add_mul]; omega), hx, show (i + 1) * sz + j - sz = i * sz + j by rw [Nat.add_mul]; omega]
      exact ih (fun y hy => h y (List.mem_cons_of_mem _ hy)) hi

/-- A block that holds the rows of the elements, one behind the other. -/
theorem Rows.block {g : Nat} {C : Array Value} {t : TypeId} {fr : Nat × Nat} {rows : List (List Value)} (hg : w.heap[g]? = some (.cells C t fr)) (hC : ∀ (j : Nat) (u : Value), rows.flatten[j]? = some u → C[j]? = some u) (hl : ∀ r ∈ rows, r.length = sz)
    (hlen : rows.length = l.length) (h : ∀ (i : Nat) (a : α) (r : List Value), l[i]? = some a → rows[i]? = some r → R.rd w S a r) : Rows R sz w (fun x => S x ∨ x = g) (some ⟨g, 0, none⟩) l := fun i a ha => by
  have hi : i < l.length := (List.getElem?_eq_some_iff.1 ha).1
  have hr : rows[i]? = some rows[i] := List.getElem?_eq_getElem (by omega)
  refine ⟨g, 0, rows[i], rfl, .inr rfl, fun j u hj => ?_, R.more (fun b hb => .inl hb) (h i a _ ha hr)⟩
  have h1 := hC _ u (flat_get hl hr hj)
  unfold World.cell?
  simp only [hg, Option.isSome_none, Bool.false_eq_true, if_false, Nat.zero_add]
  exact h1
/-- The slice v, whose row the call made itself, holds the elements of l; the readings go through other blocks of the call's own. -/
def OwnRows (R : Reading α) (sz : Nat) (w : World) (base : Nat) (e : TypeId) (v : Value) (l : List α) (rows : List (List Value)) : Prop :=
  rows.length = l.length ∧ (∀ r ∈ rows, r.length = sz) ∧ w.ownsRow base e sz v l.length rows.flatten ∧ ∀ (i : Nat) (a : α) (r : List Value), l[i]? = some a → rows[i]? = some r → R.rd w (fun b => base ≤ b ∧ b < w.heap.size ∧ v.ownBlock ≠ some b) a r
def Own (R : Reading α) (sz : Nat) (w : World) (base : Nat) (e : TypeId) (v : Value) (l : List α) : Prop := ∃ rows, OwnRows R sz w base e v l rows
theorem Own.nil (R : Reading α) (sz : Nat) (w : World) (base : Nat) (e : TypeId) : Own R sz w base e (.slice none 0 0) [] := ⟨[], rfl, (fun _ h => (by cases h)), World.ownsRow_nil w base e sz, (fun i a r h => (by simp at h))⟩
theorem Own.form (h : Own R sz w base e v l) : ∃ A c, v = .slice A l.length c ∧ l.length ≤ c ∧ c ≤ maxLen := by
  obtain ⟨rows, _, _, h3, _⟩ := h
  rcases h3.2 with ⟨hv, h0⟩ | ⟨g, cap, cur, hv, _, _, h1, h2, _⟩
  · exact ⟨_, _, by rw [hv, h0], by omega, Nat.zero_le _⟩
  · exact ⟨_, _, hv, h1, h2⟩
theorem Own.rows {c : Nat} (h : Own R sz w base e (.slice A l.length c) l) : Rows R sz w (New base w) A l := fun i a ha => by
  obtain ⟨rows, h1, h2, h3, h4⟩ := h
  have hi : i < l.length := (List.getElem?_eq_some_iff.1 ha).1
  rcases h3.2 with ⟨_, h0⟩ | ⟨g, cap, cur, hv, hg, hh, _⟩
  · omega
  · injection hv with hA
    subst hA
    have hr : rows[i]? = some rows[i] := List.getElem?_eq_getElem (by omega)
    have hlt : g < w.heap.size := (Array.getElem?_eq_some_iff.1 hh).1
    refine ⟨g, 0, rows[i], rfl, ⟨hg, hlt⟩, fun j u hj => ?_, R.more (fun b hb => ⟨hb.1, hb.2.1⟩) (h4 i a _ ha hr)⟩
    have := h3.cells (g := g) rfl _ u (flat_get h2 hr hj)
    rw [Addr.add_mid, Nat.zero_add] at this
    rw [Nat.zero_add]; exact this
theorem Own.keep (h : Own R sz w base e v l) (hk : ∀ k, base ≤ k → k < w.heap.size → w'.heap[k]? = w.heap[k]?) (hz : w.heap.size ≤ w'.heap.size) : Own R sz w' base e v l := by
  obtain ⟨rows, h1, h2, h3, h4⟩ := h
  refine ⟨rows, h1, h2, ⟨h3.1, ?_⟩, fun i a r ha hr => R.more (S := fun b => base ≤ b ∧ b < w.heap.size ∧ v.ownBlock ≠ some b) (fun b hb => ⟨hb.1, by omega, hb.2.2⟩) (R.keep (fun b o hb => World.cell?_of_block (a := ⟨b, o, none⟩) (hk b hb.1 hb.2.1)) (h4 i a r ha hr))⟩
  rcases h3.2 with h0 | ⟨g, cap, cur, hv, hg, hh, rest⟩
  · exact .inl h0
  · exact .inr ⟨g, cap, cur, hv, hg, (hk g hg (Array.getElem?_eq_some_iff.1 hh).1).trans hh, rest⟩
theorem Own.below (h : Own R sz w base e v l) (hb : Below w.heap.size w w') : Own R sz w' base e v l := h.keep (fun k _ hk => hb.block k hk) hb.size
/-- One element more: w1 is the world at the append (elements as in w, the new one read there). -/
theorem OwnRows.snoc {rows : List (List Value)} {w1 w2 : World} {v' : Value} {a : α} {cs : List Value} (h : OwnRows R sz w1 base e v l rows) (hcs : cs.length = sz)
    (hd : R.rd w1 (fun b => base ≤ b ∧ b < w1.heap.size ∧ v.ownBlock ≠ some b) a cs) (hown : w2.ownsRow base e sz v' (l.length + 1) (rows.flatten ++ cs)) (hg : w1.grownBy w2 v.ownBlock) (hv : v'.ownBlock = v.ownBlock ∨ v'.ownBlock = some w1.heap.size) : Own R sz w2 base e v' (l ++ [a]) := by
  obtain ⟨h1, h2, h3, h4⟩ := h
  have key : ∀ x r, R.rd w1 (fun b => base ≤ b ∧ b < w1.heap.size ∧ v.ownBlock ≠ some b) x r → R.rd w2 (fun b => base ≤ b ∧ b < w2.heap.size ∧ v'.ownBlock ≠ some b) x r := fun x r hx => by
    refine R.more (S := fun b => base ≤ b ∧ b < w1.heap.size ∧ v.ownBlock ≠ some b) (fun b hb => ⟨hb.1, Nat.lt_of_lt_of_le hb.2.1 hg.size, fun e => ?_⟩) (R.keep (Same.grown hg fun b hb => ⟨hb.2.1, hb.2.2⟩) hx)
    rcases hv with hv | hv
    · exact hb.2.2 (hv ▸ e)
    · rw [hv] at e; injection e with e; have := hb.2.1; omega
  refine ⟨rows ++ [cs], by simp [h1], fun r hr => ?_, ?_, fun i x r hx hr => ?_⟩
  · rcases List.mem_append.1 hr with hr | hr
    · exact h2 r hr
    · rw [List.mem_singleton.1 hr]; exact hcs
  · rw [List.flatten_append, List.length_append]; simpa using hown
  · by_cases hi : i < l.length
    · rw [List.getElem?_append_left hi] at hx
      rw [List.getElem?_append_left (by omega)] at hr
      exact key x r (h4 i x r hx hr)
    · have hlt := (List.getElem?_eq_some_iff.1 hx).1
      simp at hlt
      obtain rfl : i = l.length := by omega
      rw [List.getElem?_append_right (by omega), Nat.sub_self] at hx
      rw [List.getElem?_append_right (by omega), h1, Nat.sub_self] at hr
      simp at hx hr; subst hx; subst hr
      exact key _ _ hd
/-! ### Rows of the call's own whose elements are read through the blocks of S -/
def OwnIn (R : Reading α) (sz : Nat) (w : World) (S : Nat → Prop) (base : Nat) (e : TypeId) (v : Value) (l : List α) (rows : List (List Value)) : Prop :=
  rows.length = l.length ∧ (∀ r ∈ rows, r.length = sz) ∧ w.ownsRow base e sz v l.length rows.flatten ∧ ∀ (i : Nat) (a : α) (r : List Value), l[i]? = some a → rows[i]? = some r → R.rd w S a r
theorem OwnIn.form {rows : List (List Value)} (h : OwnIn R sz w S base e v l rows) : ∃ A c, v = .slice A l.length c ∧ l.length ≤ c ∧ c ≤ maxLen := by
  rcases h.2.2.1.2 with ⟨hv, h0⟩ | ⟨g, cap, cur, hv, _, _, h1, h2, _⟩
  · exact ⟨_, _, by rw [hv, h0], by omega, Nat.zero_le _⟩
  · exact ⟨_, _, hv, h1, h2⟩
theorem OwnIn.filled {rows : List (List Value)} (h : OwnIn R sz w S base e v l rows) (hl : 0 < l.length) : ∃ g c, v = .slice (some ⟨g, 0, none⟩) l.length c ∧ base ≤ g ∧ g < w.heap.size ∧ l.length ≤ c ∧ c ≤ maxLen := by
  rcases h.2.2.1.2 with ⟨hv, h0⟩ | ⟨g, cap, cur, hv, hg, hh, h1, h2, _⟩
  · omega
  · exact ⟨_, _, hv, hg, (Array.getElem?_eq_some_iff.1 hh).1, h1, h2⟩
theorem OwnIn.rows {rows : List (List Value)} {c : Nat} (h : OwnIn R sz w S base e (.slice A l.length c) l rows) : Rows R sz w (fun b => S b ∨ (base ≤ b ∧ b < w.heap.size)) A l := fun i a ha => by
  obtain ⟨h1, h2, h3, h4⟩ := h
  have hi : i < l.length := (List.getElem?_eq_some_iff.1 ha).1
  rcases h3.2 with ⟨_, h0⟩ | ⟨g, cap, cur, hv, hg, hh, _⟩
  · omega
  · injection hv with hA
    subst hA
    have hr : rows[i]? = some rows[i] := List.getElem?_eq_getElem (by omega)
    have hlt : g < w.heap.size := (Array.getElem?_eq_some_iff.1 hh).1
    refine ⟨g, 0, rows[i], rfl, .inr ⟨hg, hlt⟩, fun j u hj => ?_, R.more (fun b hb => .inl hb) (h4 i a _ ha hr)⟩
    have := h3.cells (g := g) rfl _ u (flat_get h2 hr hj)
    rw [Addr.add_mid, Nat.zero_add] at this
    rw [Nat.zero_add]; exact this
theorem OwnIn.keep {rows : List (List Value)} (h : OwnIn R sz w S base e v l rows) (hs : Same S w w') (hk : ∀ k, base ≤ k → k < w.heap.size → w'.heap[k]? = w.heap[k]?) : OwnIn R sz w' S base e v l rows := by
  obtain ⟨h1, h2, h3, h4⟩ := h
  refine ⟨h1, h2, ⟨h3.1, ?_⟩, fun i a r ha hr => R.keep hs (h4 i a r ha hr)⟩
  rcases h3.2 with h0 | ⟨g, cap, cur, hv, hg, hh, rest⟩
  · exact .inl h0
  · exact .inr ⟨g, cap, cur, hv, hg, (hk g hg (Array.getElem?_eq_some_iff.1 hh).1).trans hh, rest⟩
theorem OwnIn.below {rows : List (List Value)} (h : OwnIn R sz w S base e v l rows) (hb : Below w.heap.size w w') (hS : ∀ b, S b → b < w.heap.size) : OwnIn R sz w' S base e v l rows := h.keep (Same.of_below hb hS) fun k _ hk => hb.block k hk
/-- More elements behind: w1 is the world at the append, where both lists are read. -/
theorem OwnIn.app {rows rows' : List (List Value)} {w1 w2 : World} {v' : Value} {l' : List α} (h : OwnIn R sz w1 S base e v l rows) (hlen : rows'.length = l'.length) (hsz : ∀ r ∈ rows', r.length = sz) (h' : ∀ (i : Nat) (a : α) (r : List Value), l'[i]? = some a → rows'[i]? = some r → R.rd w1 S a r)
    (hown : w2.ownsRow base e sz v' (l.length + l'.length) (rows.flatten ++ rows'.flatten)) (hs : Same S w1 w2) : OwnIn R sz w2 S base e v' (l ++ l') (rows ++ rows') := by
  obtain ⟨h1, h2, h3, h4⟩ := h
  refine ⟨by simp [h1, hlen], fun r hr => (List.mem_append.1 hr).elim (h2 r) (hsz r), by rw [List.length_append, List.flatten_append]; exact hown, fun i a r ha hr => R.keep hs ?_⟩
  by_cases hi : i < l.length
  · rw [List.getElem?_append_left hi] at ha
    rw [List.getElem?_append_left (by omega)] at hr
    exact h4 i a r ha hr
  · rw [List.getElem?_append_right (by omega)] at ha
    rw [List.getElem?_append_right (by omega), h1] at hr
    exact h' _ a r ha hr
end
end Go.Proofs.Ytgdclchpccbifaa
