/-
  THE WALK OF camletlaw02.EndsTells.
-/
import Derived.Test.YtmcijpdockkjbaaDoorEndsK
import Derived.Deep.RegionHeld3
import Derived.Deep.DrawnRows
import Derived.Outline
namespace Go.Proofs.YtmcijpdockkjbaaDoor
open Go.ChangeShapes Go.WideShapes Go.ChangeAt Go.RowKit
set_option linter.unusedVariables false
attribute [local go_sem ↓] Go.wp_at_zero Go.wp_at_succ
theorem below_drew1 {B : Nat} {a w : World} (h : Below B a w) : Below B a w.drew := ⟨h.os, h.tape, h.output, h.size, h.block⟩
/-- The world behind the boxing of two ends. -/
def boxed (w : World) (k n s : Int) (A : Option Addr) (l c : Nat) (k' n' s' : Int) (D : Option Addr) (m d : Nat) : World :=
  (w.alloc (.cells #[.int .i64 k, .int .i64 n, .slice A l c, .int .i64 s] 25)).alloc (.cells #[.int .i64 k', .int .i64 n', .slice D m d, .int .i64 s'] 25)
theorem boxed_def (w : World) (k n s : Int) (A : Option Addr) (l c : Nat) (k' n' s' : Int) (D : Option Addr) (m d : Nat) :
  (w.alloc (.cells #[.int .i64 k, .int .i64 n, .slice A l c, .int .i64 s] 25)).alloc (.cells #[.int .i64 k', .int .i64 n', .slice D m d, .int .i64 s'] 25) = boxed w k n s A l c k' n' s' D m d := rfl
/-- Two ends lie in two blocks. -/
def Ends2 (g : Nat) (k n s : Int) (A : Option Addr) (l c : Nat) (k' n' s' : Int) (D : Option Addr) (m d : Nat) (w' : World) : Prop :=
  (w'.cell? ⟨g, 0, none⟩ = some (.int .i64 k) ∧ w'.cell? ⟨g, 1, none⟩ = some (.int .i64 n) ∧ w'.cell? ⟨g, 2, none⟩ = some (.slice A l c) ∧ w'.cell? ⟨g, 3, none⟩ = some (.int .i64 s)) ∧
  w'.cell? ⟨g + 1, 0, none⟩ = some (.int .i64 k') ∧ w'.cell? ⟨g + 1, 1, none⟩ = some (.int .i64 n') ∧ w'.cell? ⟨g + 1, 2, none⟩ = some (.slice D m d) ∧ w'.cell? ⟨g + 1, 3, none⟩ = some (.int .i64 s')
theorem boxed_ends (w : World) (k n s : Int) (A : Option Addr) (l c : Nat) (k' n' s' : Int) (D : Option Addr) (m d : Nat) :
    Ends2 w.heap.size k n s A l c k' n' s' D m d (boxed w k n s A l c k' n' s' D m d) ∧ w.heap.size + 1 < (boxed w k n s A l c k' n' s' D m d).heap.size ∧ Below w.heap.size w (boxed w k n s A l c k' n' s' D m d) := by
  refine ⟨?_, by simp [boxed], Go.Joins.below_alloc2 w _ _⟩
  have h1 : ∀ j, (boxed w k n s A l c k' n' s' D m d).cell? ⟨w.heap.size, j, none⟩ = (#[.int .i64 k, .int .i64 n, .slice A l c, .int .i64 s] : Array Value)[j]? := fun j =>
    (World.cell?_alloc_lt _ _ _ (by simp)).trans (Go.Joins.cell_alloc_mark_at w _ _ _ _ j rfl)
  have h2 : ∀ j, (boxed w k n s A l c k' n' s' D m d).cell? ⟨w.heap.size + 1, j, none⟩ = (#[.int .i64 k', .int .i64 n', .slice D m d, .int .i64 s'] : Array Value)[j]? := fun j =>
    Go.Joins.cell_alloc_mark_at _ _ _ _ _ j (by simp)
  exact ⟨⟨h1 0, h1 1, h1 2, h1 3⟩, h2 0, h2 1, h2 2, h2 3⟩
theorem ends_keep {g : Nat} {k n s : Int} {A : Option Addr} {l c : Nat} {k' n' s' : Int} {D : Option Addr} {m d : Nat} {W0 w' : World} (h : Ends2 g k n s A l c k' n' s' D m d W0) (hg : g + 1 < W0.heap.size) (hb : Below W0.heap.size W0 w') :
    Ends2 g k n s A l c k' n' s' D m d w' := by
  obtain ⟨⟨a0, a1, a2, a3⟩, b0, b1, b2, b3⟩ := h
  have c1 := (bcell hb).1
  exact ⟨⟨(c1 g 0 (by omega)).trans a0, (c1 g 1 (by omega)).trans a1, (c1 g 2 (by omega)).trans a2, (c1 g 3 (by omega)).trans a3⟩, (c1 _ 0 hg).trans b0, (c1 _ 1 hg).trans b1, (c1 _ 2 hg).trans b2, (c1 _ 3 hg).trans b3⟩
section
variable {k n s k' n' s' : Int} {A D : Option Addr} {c d : Nat} {xs ys : List Int} {w W : World} (HB : Both A D xs ys w) (hW : Below w.heap.size w W)
include HB hW
theorem agree1 (lc : xs.length ≤ c) (mc : c ≤ maxLen) (ld : ys.length ≤ d) (md : d ≤ maxLen) : Calls Tryd.prog 11 #[.agg #[.int .i64 k, .int .i64 n, .slice A xs.length c, .int .i64 s], .agg #[.int .i64 k', .int .i64 n', .slice D ys.length d, .int .i64 s']] W fun e w' => e = .returned (.bool (agreeB k n s xs k' n' s' ys)) ∧ Below w.heap.size w w' :=
  (agree_e k n s k' n' s' A D c d xs ys W (HB W hW).1 (HB W hW).2.1 (HB W hW).2.2 lc mc ld md).mono fun _ _ ⟨he, hb⟩ => ⟨he, below_then hW hb⟩
theorem ragree1 (lx : xs.length ≤ maxLen) (ly : ys.length ≤ maxLen) : Calls Tryd.prog 12 #[.agg #[.int .i64 k, .int .i64 n, .slice A xs.length c, .int .i64 s], .agg #[.int .i64 k', .int .i64 n', .slice D ys.length d, .int .i64 s']] W fun e w' => e = .returned (.bool (agreeB k n s xs k' n' s' ys)) ∧ Below w.heap.size w w' :=
  (ragree_e k n s k' n' s' A D c d xs ys W (HB W hW).1 (HB W hW).2.1 (HB W hW).2.2 lx ly).mono fun _ _ ⟨he, hb⟩ => ⟨he, below_then hW hb⟩
theorem show1 (lx : xs.length ≤ 300) (n0 : -9223372036854775808 ≤ n) (n1 : n ≤ 9223372036854775807) (hN : Names w) (hT : Pow10 w) : Calls Tryd.prog 13 #[.agg #[.int .i64 k, .int .i64 n, .slice A xs.length c, .int .i64 s]] W fun e w' => e = .returned (.string ⟨(showL k n s xs).toArray⟩) ∧ Below w.heap.size w w' :=
  (show_e k n s A c xs W (HB W hW).1 (HB W hW).2.2 lx n0 n1 (hN.on hW) (hT.on hW)).mono fun _ _ ⟨he, hb⟩ => ⟨he, below_then hW hb⟩
theorem rshow1 (lx : xs.length ≤ 300) (n0 : -9223372036854775808 ≤ n) (n1 : n ≤ 9223372036854775807) : Calls Tryd.prog 14 #[.agg #[.int .i64 k, .int .i64 n, .slice A xs.length c, .int .i64 s]] W fun e w' => e = .returned (.string ⟨(showL k n s xs).toArray⟩) ∧ Below w.heap.size w w' :=
  (rshow_e k n s A c xs W (HB W hW).1 (HB W hW).2.2 lx n0 n1).mono fun _ _ ⟨he, hb⟩ => ⟨he, below_then hW hb⟩
end
theorem knows1 {w W : World} (hN : Names w) (hT : Pow10 w) (hW : Below w.heap.size w W) : Calls Tryd.prog 6 #[] W fun e w' => e = .returned (.bool true) ∧ Below w.heap.size w w' :=
  (knows_any W (hN.on hW) (hT.on hW)).mono fun _ _ ⟨he, hb⟩ => ⟨he, below_then hW hb⟩
section
variable (k n s k' n' s' : Int) (A D : Option Addr) (c d : Nat) (xs ys : List Int) (w : World)
theorem tells_long (hN : Names w) (hT : Pow10 w) (h : 300 < xs.length ∨ (xs.length ≤ 300 ∧ 300 < ys.length)) :
    Calls Tryd.prog 3 #[.agg #[.int .i64 k, .int .i64 n, .slice A xs.length c, .int .i64 s], .agg #[.int .i64 k', .int .i64 n', .slice D ys.length d, .int .i64 s']] w fun e w' => e = .returned (.bool true) ∧ Below w.heap.size w w' := by
  have HN := Lib.hid hN
  have HT := Lib.hid hT
  clear hN hT
  rcases h with h | ⟨h, h'⟩
  all_goals
    go_enter Tryd.func3, Tryd.ntmps3
    go_wp2_with fail
    refine (knows_any _ (HN.out.on (by exact Go.Joins.below_alloc2 w _ _)) (HT.out.on (by exact Go.Joins.below_alloc2 w _ _))).mono ?_
    rintro e w1 ⟨rfl, hb1⟩
    go_wp2
    go_ret
    exact ⟨rfl, below_then (Go.Joins.below_alloc2 w _ _) hb1⟩

set_option maxHeartbeats 3200000 in
theorem tells_run (HB : Both A D xs ys w) (hN : Names w) (hT : Pow10 w) (lx : xs.length ≤ 300) (ly : ys.length ≤ 300) (lc : xs.length ≤ c) (mc : c ≤ maxLen) (ld : ys.length ≤ d) (md : d ≤ maxLen)
    (n0 : -9223372036854775808 ≤ n) (n1 : n ≤ 9223372036854775807) :
    Calls Tryd.prog 3 #[.agg #[.int .i64 k, .int .i64 n, .slice A xs.length c, .int .i64 s], .agg #[.int .i64 k', .int .i64 n', .slice D ys.length d, .int .i64 s']] w fun e w' => e = .returned (.bool true) ∧ Below w.heap.size w w' := by
  have HN := Lib.hid hN
  have HT := Lib.hid hT
  have HB := Lib.hid HB
  clear hN hT
  obtain ⟨hE, hg, hW⟩ := boxed_ends w k n s A xs.length c k' n' s' D ys.length d
  have HB0 := Lib.hid (both_on HB.out hW)
  have HN0 := Lib.hid (HN.out.on hW)
  have HT0 := Lib.hid (HT.out.on hW)
  have HW := Lib.hid hW
  have mx : xs.length ≤ maxLen := by unfold maxLen; omega
  have my : ys.length ≤ maxLen := by unfold maxLen; omega
  go_enter Tryd.func3, Tryd.ntmps3
  go_wp2_with fail
  rw [boxed_def]
  clear hW HB HN HT
  generalize boxed w k n s A xs.length c k' n' s' D ys.length d = W0 at *
  generalize hgg : w.heap.size = g at *
  have KE := Lib.hid (fun (w' : World) (hb : Below W0.heap.size W0 w') => show Below W0.heap.size W0 w' ∧ (w'.cell? ⟨g, 0, none⟩ = some (.int .i64 k) ∧ w'.cell? ⟨g, 1, none⟩ = some (.int .i64 n) ∧ w'.cell? ⟨g, 2, none⟩ = some (.slice A xs.length c) ∧ w'.cell? ⟨g, 3, none⟩ = some (.int .i64 s)) ∧ w'.cell? ⟨g + 1, 0, none⟩ = some (.int .i64 k') ∧ w'.cell? ⟨g + 1, 1, none⟩ = some (.int .i64 n') ∧ w'.cell? ⟨g + 1, 2, none⟩ = some (.slice D ys.length d) ∧ w'.cell? ⟨g + 1, 3, none⟩ = some (.int .i64 s') from ⟨hb, ends_keep hE hg hb⟩)
  have KS := (KE.out W0 (Below.refl _ _)).2
  clear hE
  go_region_held3 (fun w' => Below W0.heap.size W0 w' ∧ (w'.cell? ⟨g, 0, none⟩ = some (.int .i64 k) ∧ w'.cell? ⟨g, 1, none⟩ = some (.int .i64 n) ∧ w'.cell? ⟨g, 2, none⟩ = some (.slice A xs.length c) ∧ w'.cell? ⟨g, 3, none⟩ = some (.int .i64 s)) ∧ w'.cell? ⟨g + 1, 0, none⟩ = some (.int .i64 k') ∧ w'.cell? ⟨g + 1, 1, none⟩ = some (.int .i64 n') ∧ w'.cell? ⟨g + 1, 2, none⟩ = some (.slice D ys.length d) ∧ w'.cell? ⟨g + 1, 3, none⟩ = some (.int .i64 s'))
    (first | exact KE.out _ (Below.refl _ _) | exact KE.out _ (below_drew1 (Below.refl _ _)) | exact KE.out _ (by assumption) | exact KE.out _ (below_drew1 (by assumption)))
    (first
      | (go_at_call 7; obtain ⟨hbw, _⟩ := ‹Below W0.heap.size W0 _ ∧ _›; refine (right1 k n s c HB0.out hbw mx).mono ?_; rintro e w2 ⟨rfl, hb2, _⟩)
      | (go_at_call 8; obtain ⟨hbw, _⟩ := ‹Below W0.heap.size W0 _ ∧ _›; refine (rright1 k n s c HB0.out hbw mx).mono ?_; rintro e w2 ⟨rfl, hb2, _⟩)
      | (go_at_call 9; obtain ⟨hbw, _⟩ := ‹Below W0.heap.size W0 _ ∧ _›; refine (same1 k n s k' n' s' c d HB0.out hbw mx my).mono ?_; rintro e w2 ⟨rfl, hb2, _⟩)
      | (go_at_call 10; obtain ⟨hbw, _⟩ := ‹Below W0.heap.size W0 _ ∧ _›; refine (rsame1 k n s k' n' s' c d HB0.out hbw mx my).mono ?_; rintro e w2 ⟨rfl, hb2, _⟩)
      | (go_at_call 11; obtain ⟨hbw, _⟩ := ‹Below W0.heap.size W0 _ ∧ _›; refine (agree1 HB0.out hbw lc mc ld md).mono ?_; rintro e w2 ⟨rfl, hb2⟩)
      | (go_at_call 12; obtain ⟨hbw, _⟩ := ‹Below W0.heap.size W0 _ ∧ _›; refine (ragree1 HB0.out hbw mx my).mono ?_; rintro e w2 ⟨rfl, hb2⟩)
      | (go_at_call 13; obtain ⟨hbw, _⟩ := ‹Below W0.heap.size W0 _ ∧ _›; refine (show1 HB0.out hbw lx n0 n1 HN0.out HT0.out).mono ?_; rintro e w2 ⟨rfl, hb2⟩)
      | (go_at_call 14; obtain ⟨hbw, _⟩ := ‹Below W0.heap.size W0 _ ∧ _›; refine (rshow1 HB0.out hbw lx n0 n1).mono ?_; rintro e w2 ⟨rfl, hb2⟩)
      | (go_at_call 6; obtain ⟨hbw, _⟩ := ‹Below W0.heap.size W0 _ ∧ _›; refine (knows1 HN0.out HT0.out hbw).mono ?_; rintro e w2 ⟨rfl, hb2⟩))
  go_wp2
  go_ret
  exact ⟨rfl, below_then (by rw [hgg]; exact HW.out) (by assumption)⟩
end
theorem open_end {H : Type} {enc : TypeId × Value → H} {W : World} {v : Value} {d : DataW H} {p : List MemPlace} (o : Value.okWide Tryd.prog W .any 0 25 v) (r : DataW.Trod enc Tryd.prog W 0 (fun _ => true) true 25 v d p) :
    ∃ (k n s : Int) (A : Option Addr) (c : Nat) (xs : List Int), v = .agg #[.int .i64 k, .int .i64 n, .slice A xs.length c, .int .i64 s] ∧ IntsAt W W.heap.size A xs ∧ xs.length ≤ c ∧ c ≤ maxLen ∧ In64 xs ∧
      -9223372036854775808 ≤ n ∧ n ≤ 9223372036854775807 := by
  obtain ⟨v0, v1, v2, v3, y0, y1, y2, y3, m, rfl, _, _, h0, h1, h2, h3⟩ := Go.Joins.open_agg4 Tryd.underlying25 (by kernel_rfl) (by kernel_rfl) o r
  obtain ⟨k, e0, _, _⟩ := DataW.trod_int Tryd.underlying22 h0
  obtain ⟨n, e1, _, hn⟩ := DataW.trod_int Tryd.underlying3 h1
  obtain ⟨A, c, xs, rfl, hI, hl, hc, h64⟩ := ints_of Tryd.underlying23 Tryd.underlying3 (by kernel_rfl) h2
  obtain ⟨s, e3, _, _⟩ := DataW.trod_int Tryd.underlying3 h3
  simp only [List.cons.injEq, and_true] at e0 e1 e3
  subst e0 e1 e3
  exact ⟨k, n, s, A, c, xs, rfl, hI, hl, hc, h64, bounds_i64 hn⟩
end Go.Proofs.YtmcijpdockkjbaaDoor
