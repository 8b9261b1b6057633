/-
  append OF A SLICE OF INTEGERS (nil, empty or not) ONTO A ROW OF THE CALL's OWN. Nothing of the program is named here.
-/
import Derived.Test.YtgdclchpccbifaaInts
import Derived.Maps.AppendAt
import Derived.Laws.AppendOwnNone
import Derived.OwnWalk
namespace Go.Proofs.Ytgdclchpccbifaa
open Go.ChangeShapes Go.WideShapes Go.ChangeAt Go.RowKit
def cells (xs : List Int) : List Value := xs.map (Value.int .i64)
theorem cells_length (xs : List Int) : (cells xs).length = xs.length := by simp [cells]
theorem cells_app (xs ys : List Int) : cells (xs ++ ys) = cells xs ++ cells ys := by simp [cells]
section
variable {P : Program} {w : World} {B base : Nat} {A : Option Addr} {xs : List Int}
theorem IntsAt.news {ad : Addr} (h : IntsAt w B (some ad) xs) : ∀ j u, (cells xs)[j]? = some u → w.cell? (ad.add j) = some u := fun j u hu => by
  simp only [cells, List.getElem?_map, Option.map_eq_some_iff] at hu
  obtain ⟨x, hx, rfl⟩ := hu
  obtain ⟨ad', e, _, hc⟩ := h j x hx
  cases e; exact hc
theorem ints_own {e : TypeId} {A : Option Addr} {n c : Nat} (h : w.ownsRow base e 1 (.slice A n c) n (cells xs)) : n = xs.length ∧ IntsAt w w.heap.size A xs ∧ n ≤ c ∧ c ≤ maxLen := by
  have hl : n = xs.length := by have := h.1; rw [cells_length] at this; omega
  refine ⟨hl, fun k x hx => ?_, ?_⟩
  · rcases h.2 with ⟨hv, h0⟩ | ⟨g, cap, cur, hv, _, hh, _⟩
    · have := (List.getElem?_eq_some_iff.1 hx).1; omega
    · injection hv with hA
      subst hA
      have hlt : g < w.heap.size := by
        rcases Nat.lt_or_ge g w.heap.size with h' | h'
        · exact h'
        · rw [Array.getElem?_eq_none h'] at hh; cases hh
      exact ⟨_, rfl, hlt, h.cells (g := g) rfl k _ (by simp [cells, hx])⟩
  · rcases h.2 with ⟨hv, h0⟩ | ⟨g, cap, cur, hv, _, _, hnc, hcm, _⟩
    · injection hv with _ _ hc
      subst hc
      exact ⟨by omega, Nat.zero_le _⟩
    · injection hv with _ _ hc
      subst hc
      exact ⟨hnc, hcm⟩
theorem own_form {e : TypeId} {v : Value} {n : Nat} {cs : List Value} (h : w.ownsRow base e 1 v n cs) : ∃ A c, v = .slice A n c := by
  rcases h.2 with ⟨hv, h0⟩ | ⟨g, cap, cur, hv, _⟩
  · exact ⟨_, _, by rw [hv, h0]⟩
  · exact ⟨_, _, hv⟩
theorem wpList_append_ints {ops : Array Oper} {rest : List Oper} {o : Oper} {a : Act} {Q : Exit → Act → World → Prop} (hgd : o.guard = none) (s x : Operand) (t : TypeId)
    (ho : o.op = .call { callee := .builtin .append, args := #[s, x], argTypes := #[t, t] })
    (base : Nat) (e : TypeId) (i : TypeInfo) (z : Value) (ht : P.underlying t = some (.slice e)) (hi : P.info? e = some i) (hz : i.zero = some z)
    (hsize : i.size = 1) (hby : i.bytes = 8) (hzs : z.cells.size = 1)
    (v : Value) (n : Nat) (cs : List Value) (hs : a.eval s = v) (hown : w.ownsRow base e 1 v n cs)
    (A : Option Addr) (xs : List Int) (c : Nat) (hx : a.eval x = .slice A xs.length c) (hn : A = none → c = 0) (hI : IntsAt w B A xs)
    (h63 : n + xs.length ≤ 65536) (hbase : base ≤ w.heap.size)
    (h : ∀ v' w', w'.ownsRow base e 1 v' (n + xs.length) (cs ++ cells xs) → w.grownBy w' v.ownBlock → (v'.ownBlock = v.ownBlock ∨ v'.ownBlock = some w.heap.size) → wpList P ops Q rest (a.put o.dst v') w') :
    wpList P ops Q (o :: rest) a w := by
  cases A with
  | none =>
    have hxs : xs = [] := by
      cases xs with
      | nil => rfl
      | cons y ys => obtain ⟨_, e, _⟩ := hI 0 y rfl; cases e
    subst hxs
    refine wpList_append_own_none hgd s x t ho base e i 1 ht hi v n cs hs hown (by rw [hx, hn rfl]; rfl) ?_
    have := h v w (by simpa [cells] using hown) (World.grownBy.refl w _) (.inl rfl)
    exact this
  | some ad =>
    refine wpList_append_own_at (P := P) w hgd s x t ho base e i z 1 8 ht hi hz hsize hby hzs (by omega) v n cs hs hown ad xs.length c (cells xs) hx (by rw [cells_length]; omega) hI.news (by intro u hu; simp [cells] at hu; obtain ⟨y, _, rfl⟩ := hu; rfl)
      (by unfold maxLen; omega) (by omega) hbase fun v' w' h1 h2 _ h4 => h v' w' h1 h2 h4
end
end Go.Proofs.Ytgdclchpccbifaa
