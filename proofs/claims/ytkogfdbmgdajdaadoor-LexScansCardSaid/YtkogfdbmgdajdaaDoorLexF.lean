/-
  CONTRACTS OF lex, VI: Words, Signs, Show; the reference's Words, Signs, Show, Same; the law's places.
-/
import Derived.Test.YtkogfdbmgdajdaaDoorLexE
import Derived.Test.YtkogfdbmgdajdaaDoorLexL
import Derived.Test.YtkogfdbmgdajdaaDoorBuilder
import Derived.Test.YtkogfdbmgdajdaaDoorStable
import Derived.Deep.WholeRow
namespace Go.Proofs.YtkogfdbmgdajdaaDoor
open Go.ChangeShapes Go.WideShapes Go.ChangeAt Go.RowKit
set_option linter.unusedVariables false
theorem add_add' (a : Addr) (n k : Nat) (hk : 0 < k) : (a.add n).add k = a.add (n + k) := by
  unfold Addr.add
  by_cases hn : n = 0
  · subst hn; simp
  · rw [if_neg hn, if_neg (by omega), if_neg (by omega)]; simp [Nat.add_assoc]
theorem ToksAt.at_ {w : World} {B : Nat} {A : Option Addr} {l : List Tk} (h : ToksAt w B A l) {k : Nat} (hk : k < l.length) : ∃ ad : Addr, A = some ad ∧ ad.block < B ∧ w.cell? (ad.add (k * 4)) = some (.int .i64 l[k].kind) ∧ w.cell? ⟨(ad.add (k * 4)).block, (ad.add (k * 4)).off + 1, none⟩ = some (.int .i64 l[k].at_) ∧ w.cell? ⟨(ad.add (k * 4)).block, (ad.add (k * 4)).off + 2, none⟩ = some (.string l[k].text) ∧ w.cell? ⟨(ad.add (k * 4)).block, (ad.add (k * 4)).off + 3, none⟩ = some (.int .i64 l[k].n) := by
  obtain ⟨ad, e, hb, hc⟩ := h k _ (List.getElem?_eq_getElem hk)
  refine ⟨ad, e, hb, hc 0 _ (by omega) rfl, ?_, ?_, ?_⟩
  · have := hc 1 _ (by omega) rfl
    rwa [← add_add' _ _ _ (by omega)] at this
  · have := hc 2 _ (by omega) rfl
    rwa [← add_add' _ _ _ (by omega)] at this
  · have := hc 3 _ (by omega) rfl
    rwa [← add_add' _ _ _ (by omega)] at this
theorem below_drew1 {B : Nat} {a w : World} (h : Below B a w) : Below B a w.drew := ⟨h.os, h.tape, h.output, h.size, h.block⟩
/-- The cells of token k at ad, in world w. -/
def TkCells (w : World) (ad : Addr) (k : Nat) (t : Tk) : Prop := w.cell? (ad.add (k * 4)) = some (.int .i64 t.kind) ∧ w.cell? ⟨(ad.add (k * 4)).block, (ad.add (k * 4)).off + 1, none⟩ = some (.int .i64 t.at_) ∧ w.cell? ⟨(ad.add (k * 4)).block, (ad.add (k * 4)).off + 2, none⟩ = some (.string t.text) ∧ w.cell? ⟨(ad.add (k * 4)).block, (ad.add (k * 4)).off + 3, none⟩ = some (.int .i64 t.n)
theorem TkCells.on {w w' : World} {B : Nat} {ad : Addr} {k : Nat} {t : Tk} (h : TkCells w ad k t) (hb : Below B w w') (hB : ad.block < B) : TkCells w' ad k t :=
  ⟨(hb.cell (by rw [block_add]; exact hB)).trans h.1, (hb.cell (by show (ad.add (k * 4)).block < B; rw [block_add]; exact hB)).trans h.2.1, (hb.cell (by show (ad.add (k * 4)).block < B; rw [block_add]; exact hB)).trans h.2.2.1, (hb.cell (by show (ad.add (k * 4)).block < B; rw [block_add]; exact hB)).trans h.2.2.2⟩
theorem ToksAt.tk {w : World} {B : Nat} {A : Option Addr} {l : List Tk} (h : ToksAt w B A l) {k : Nat} (hk : k < l.length) : ∃ ad : Addr, A = some ad ∧ ad.block < B ∧ TkCells w ad k l[k] := h.at_ hk
theorem neq_self (y : ByteArray) : (y.toList != y.toList) = false := by simp
theorem same_yes (l m : List Tk) (hal : Alike l m) (A A' : Option Addr) (c c' : Nat) (hl : l.length ≤ 9000000000000000000) (w : World) (hA : ToksAt w w.heap.size A l) (hA' : ToksAt w w.heap.size A' m) :
    Calls Tryd.prog 17 #[.slice A l.length c, .slice A' m.length c'] w fun e w' => e = .returned (.bool true) ∧ Below w.heap.size w w' := by
  have HL := Lib.hid hal
  have HA := Lib.hid hA
  have HA' := Lib.hid hA'
  have hlm := hal.1
  rw [← hlm]
  have HM := Lib.hid hlm
  clear hal hlm hA hA'
  go_enter Tryd.func17, Tryd.ntmps17
  go_wp2
  go_loopw [13] (fun z wr => ∃ k : Nat, k ≤ l.length ∧ z = .int .i64 k ∧ Below w.heap.size w wr) (fun z _ => l.length - (intOf z).toNat)
  case atStart => exact ⟨0, Nat.zero_le _, rfl, Below.refl _ _⟩
  case round =>
    obtain ⟨k, hk, rfl, hb⟩ := hrel
    have HB := Lib.hid hb
    clear hb
    by_cases hlt : k < l.length
    · have hlt' : k < m.length := by have := HM.out; omega
      have hz := HB.out.size
      obtain ⟨a1, rfl, b1, c1⟩ := (HA.out.below HB.out).tk hlt
      obtain ⟨a2, rfl, b2, c2⟩ := (HA'.out.below HB.out).tk hlt'
      obtain ⟨q1, q2, q3⟩ := HL.out.2 k hlt hlt'
      have HC := Lib.hid fun (W : World) (hW : Below wr.heap.size wr W) => And.intro (c1.on hW (by omega)) (c2.on hW (by omega))
      clear c1 c2
      unfold TkCells at HC
      rw [← q1, ← q2, ← q3] at HC
      generalize l[k].kind = x1 at *
      generalize l[k].text = x2 at *
      generalize l[k].n = x3 at *
      clear q1 q2 q3
      have n2 := neq_self x2
      go_wp2
      refine wp_region_S (fun w' => Below wr.heap.size wr w') (by kernel_rfl) (below_drew1 (Below.refl _ _)) ?_
      refine wpS_take (v := ?_) (a' := ?_) 0 rfl (by kernel_rfl) (by kernel_rfl) (by kernel_rfl) ?_ ?_ ?_
      rotate_left 2
      · refine stepS_yield (by kernel_rfl) ?_; intro wS hS; obtain ⟨⟨z1, z2, z3, z4⟩, z5, z6, z7, z8⟩ := HC.out _ hS; go_simp; with_reducible rfl
      · go_simp; with_reducible rfl
      refine wpS_take (v := ?_) (a' := ?_) 1 rfl (by kernel_rfl) (by kernel_rfl) (by kernel_rfl) ?_ ?_ ?_
      rotate_left 2
      · refine stepS_yield (by kernel_rfl) ?_; intro wS hS; obtain ⟨⟨z1, z2, z3, z4⟩, z5, z6, z7, z8⟩ := HC.out _ hS; go_simp; with_reducible rfl
      · go_simp; with_reducible rfl
      refine wpS_take (v := ?_) (a' := ?_) 2 rfl (by kernel_rfl) (by kernel_rfl) (by kernel_rfl) ?_ ?_ ?_
      rotate_left 2
      · refine stepS_yield (by kernel_rfl) ?_; intro wS hS; obtain ⟨⟨z1, z2, z3, z4⟩, z5, z6, z7, z8⟩ := HC.out _ hS; go_simp; with_reducible rfl
      · go_simp; with_reducible rfl
      refine wpS_take (v := ?_) (a' := ?_) 3 rfl (by kernel_rfl) (by kernel_rfl) (by kernel_rfl) ?_ ?_ ?_
      rotate_left 2
      · refine stepS_yield (by kernel_rfl) ?_; intro wS hS; obtain ⟨⟨z1, z2, z3, z4⟩, z5, z6, z7, z8⟩ := HC.out _ hS; go_simp; with_reducible rfl
      · go_simp; with_reducible rfl
      refine wpS_take (v := ?_) (a' := ?_) 4 rfl (by kernel_rfl) (by kernel_rfl) (by kernel_rfl) ?_ ?_ ?_
      rotate_left 2
      · refine stepS_yield (by kernel_rfl) ?_; intro wS hS; obtain ⟨⟨z1, z2, z3, z4⟩, z5, z6, z7, z8⟩ := HC.out _ hS; go_simp; with_reducible rfl
      · go_simp; with_reducible rfl
      refine wpS_take (v := ?_) (a' := ?_) 5 rfl (by kernel_rfl) (by kernel_rfl) (by kernel_rfl) ?_ ?_ ?_
      rotate_left 2
      · refine stepS_yield (by kernel_rfl) ?_; intro wS hS; obtain ⟨⟨z1, z2, z3, z4⟩, z5, z6, z7, z8⟩ := HC.out _ hS; go_simp; with_reducible rfl
      · go_simp; with_reducible rfl
      refine wpS_take (v := ?_) (a' := ?_) 6 rfl (by kernel_rfl) (by kernel_rfl) (by kernel_rfl) ?_ ?_ ?_
      rotate_left 2
      · refine stepS_yield (by kernel_rfl) ?_; intro wS hS; obtain ⟨⟨z1, z2, z3, z4⟩, z5, z6, z7, z8⟩ := HC.out _ hS; go_simp; with_reducible rfl
      · go_simp; with_reducible rfl
      refine wpS_take (v := ?_) (a' := ?_) 7 rfl (by kernel_rfl) (by kernel_rfl) (by kernel_rfl) ?_ ?_ ?_
      rotate_left 2
      · refine stepS_yield (by kernel_rfl) ?_; intro wS hS; obtain ⟨⟨z1, z2, z3, z4⟩, z5, z6, z7, z8⟩ := HC.out _ hS; go_simp; with_reducible rfl
      · go_simp; with_reducible rfl
      refine wpS_take (v := ?_) (a' := ?_) 8 rfl (by kernel_rfl) (by kernel_rfl) (by kernel_rfl) ?_ ?_ ?_
      rotate_left 2
      · refine stepS_yield (by kernel_rfl) ?_; intro wS hS; obtain ⟨⟨z1, z2, z3, z4⟩, z5, z6, z7, z8⟩ := HC.out _ hS; go_simp; with_reducible rfl
      · go_simp; with_reducible rfl
      refine wpS_take (v := ?_) (a' := ?_) 9 rfl (by kernel_rfl) (by kernel_rfl) (by kernel_rfl) ?_ ?_ ?_
      rotate_left 2
      · refine stepS_yield (by kernel_rfl) ?_; intro wS hS; obtain ⟨⟨z1, z2, z3, z4⟩, z5, z6, z7, z8⟩ := HC.out _ hS; go_simp; with_reducible rfl
      · go_simp; with_reducible rfl
      refine wpS_take (v := ?_) (a' := ?_) 10 rfl (by kernel_rfl) (by kernel_rfl) (by kernel_rfl) ?_ ?_ ?_
      rotate_left 2
      · refine stepS_yield (by kernel_rfl) ?_; intro wS hS; obtain ⟨⟨z1, z2, z3, z4⟩, z5, z6, z7, z8⟩ := HC.out _ hS; go_simp; with_reducible rfl
      · go_simp; with_reducible rfl
      refine wpS_take (v := ?_) (a' := ?_) 11 rfl (by kernel_rfl) (by kernel_rfl) (by kernel_rfl) ?_ ?_ ?_
      rotate_left 2
      · refine stepS_yield (by kernel_rfl) ?_; intro wS hS; obtain ⟨⟨z1, z2, z3, z4⟩, z5, z6, z7, z8⟩ := HC.out _ hS; go_simp; with_reducible rfl
      · go_simp; with_reducible rfl
      refine wpS_take (v := ?_) (a' := ?_) 12 rfl (by kernel_rfl) (by kernel_rfl) (by kernel_rfl) ?_ ?_ ?_
      rotate_left 2
      · refine stepS_yield (by kernel_rfl) ?_; intro wS hS; obtain ⟨⟨z1, z2, z3, z4⟩, z5, z6, z7, z8⟩ := HC.out _ hS; go_simp; with_reducible rfl
      · go_simp; with_reducible rfl
      refine wpS_take (v := ?_) (a' := ?_) 13 rfl (by kernel_rfl) (by kernel_rfl) (by kernel_rfl) ?_ ?_ ?_
      rotate_left 2
      · refine stepS_yield (by kernel_rfl) ?_; intro wS hS; obtain ⟨⟨z1, z2, z3, z4⟩, z5, z6, z7, z8⟩ := HC.out _ hS; go_simp; with_reducible rfl
      · go_simp; with_reducible rfl
      refine wpS_take (v := ?_) (a' := ?_) 14 rfl (by kernel_rfl) (by kernel_rfl) (by kernel_rfl) ?_ ?_ ?_
      rotate_left 2
      · refine stepS_yield (by kernel_rfl) ?_; intro wS hS; obtain ⟨⟨z1, z2, z3, z4⟩, z5, z6, z7, z8⟩ := HC.out _ hS; go_simp; with_reducible rfl
      · go_simp; with_reducible rfl
      refine wpS_take (v := ?_) (a' := ?_) 15 rfl (by kernel_rfl) (by kernel_rfl) (by kernel_rfl) ?_ ?_ ?_
      rotate_left 2
      · refine stepS_yield (by kernel_rfl) ?_; intro wS hS; obtain ⟨⟨z1, z2, z3, z4⟩, z5, z6, z7, z8⟩ := HC.out _ hS; go_simp; with_reducible rfl
      · go_simp; with_reducible rfl
      refine wpS_take (v := ?_) (a' := ?_) 16 rfl (by kernel_rfl) (by kernel_rfl) (by kernel_rfl) ?_ ?_ ?_
      rotate_left 2
      · refine stepS_yield (by kernel_rfl) ?_; intro wS hS; obtain ⟨⟨z1, z2, z3, z4⟩, z5, z6, z7, z8⟩ := HC.out _ hS; go_simp; with_reducible rfl
      · go_simp; with_reducible rfl
      refine wpS_take (v := ?_) (a' := ?_) 17 rfl (by kernel_rfl) (by kernel_rfl) (by kernel_rfl) ?_ ?_ ?_
      rotate_left 2
      · refine stepS_yield (by kernel_rfl) ?_; intro wS hS; obtain ⟨⟨z1, z2, z3, z4⟩, z5, z6, z7, z8⟩ := HC.out _ hS; go_simp; with_reducible rfl
      · go_simp; with_reducible rfl
      refine wpS_take (v := ?_) (a' := ?_) 18 rfl (by kernel_rfl) (by kernel_rfl) (by kernel_rfl) ?_ ?_ ?_
      rotate_left 2
      · refine stepS_yield (by kernel_rfl) ?_; intro wS hS; obtain ⟨⟨z1, z2, z3, z4⟩, z5, z6, z7, z8⟩ := HC.out _ hS; go_simp; with_reducible rfl
      · go_simp; with_reducible rfl
      refine wpS_take (v := ?_) (a' := ?_) 19 rfl (by kernel_rfl) (by kernel_rfl) (by kernel_rfl) ?_ ?_ ?_
      rotate_left 2
      · refine stepS_yield (by kernel_rfl) ?_; intro wS hS; obtain ⟨⟨z1, z2, z3, z4⟩, z5, z6, z7, z8⟩ := HC.out _ hS; go_simp; with_reducible rfl
      · go_simp; with_reducible rfl
      refine wpS_take (v := ?_) (a' := ?_) 20 rfl (by kernel_rfl) (by kernel_rfl) (by kernel_rfl) ?_ ?_ ?_
      rotate_left 2
      · refine stepS_yield (by kernel_rfl) ?_; intro wS hS; obtain ⟨⟨z1, z2, z3, z4⟩, z5, z6, z7, z8⟩ := HC.out _ hS; go_simp; with_reducible rfl
      · go_simp; with_reducible rfl
      refine wpS_take (v := ?_) (a' := ?_) 21 rfl (by kernel_rfl) (by kernel_rfl) (by kernel_rfl) ?_ ?_ ?_
      rotate_left 2
      · refine stepS_yield (by kernel_rfl) ?_; intro wS hS; obtain ⟨⟨z1, z2, z3, z4⟩, z5, z6, z7, z8⟩ := HC.out _ hS; go_simp; with_reducible rfl
      · go_simp; with_reducible rfl
      refine wpS_take (v := ?_) (a' := ?_) 22 rfl (by kernel_rfl) (by kernel_rfl) (by kernel_rfl) ?_ ?_ ?_
      rotate_left 2
      · refine stepS_yield (by kernel_rfl) ?_; intro wS hS; obtain ⟨⟨z1, z2, z3, z4⟩, z5, z6, z7, z8⟩ := HC.out _ hS; go_simp; with_reducible rfl
      · go_simp; with_reducible rfl
      refine wpS_take (v := ?_) (a' := ?_) 23 rfl (by kernel_rfl) (by kernel_rfl) (by kernel_rfl) ?_ ?_ ?_
      rotate_left 2
      · refine stepS_yield (by kernel_rfl) ?_; intro wS hS; obtain ⟨⟨z1, z2, z3, z4⟩, z5, z6, z7, z8⟩ := HC.out _ hS; go_simp; with_reducible rfl
      · go_simp; with_reducible rfl
      refine wpS_take (v := ?_) (a' := ?_) 24 rfl (by kernel_rfl) (by kernel_rfl) (by kernel_rfl) ?_ ?_ ?_
      rotate_left 2
      · refine stepS_yield (by kernel_rfl) ?_; intro wS hS; obtain ⟨⟨z1, z2, z3, z4⟩, z5, z6, z7, z8⟩ := HC.out _ hS; go_simp; with_reducible rfl
      · go_simp; with_reducible rfl
      refine wpS_take (v := ?_) (a' := ?_) 25 rfl (by kernel_rfl) (by kernel_rfl) (by kernel_rfl) ?_ ?_ ?_
      rotate_left 2
      · refine stepS_yield (by kernel_rfl) ?_; intro wS hS; obtain ⟨⟨z1, z2, z3, z4⟩, z5, z6, z7, z8⟩ := HC.out _ hS; go_simp; with_reducible rfl
      · go_simp; with_reducible rfl
      refine wpS_take (v := ?_) (a' := ?_) 26 rfl (by kernel_rfl) (by kernel_rfl) (by kernel_rfl) ?_ ?_ ?_
      rotate_left 2
      · refine stepS_yield (by kernel_rfl) ?_; intro wS hS; obtain ⟨⟨z1, z2, z3, z4⟩, z5, z6, z7, z8⟩ := HC.out _ hS; go_simp; with_reducible rfl
      · go_simp; with_reducible rfl
      refine wpS_take (v := ?_) (a' := ?_) 27 rfl (by kernel_rfl) (by kernel_rfl) (by kernel_rfl) ?_ ?_ ?_
      rotate_left 2
      · refine stepS_yield (by kernel_rfl) ?_; intro wS hS; obtain ⟨⟨z1, z2, z3, z4⟩, z5, z6, z7, z8⟩ := HC.out _ hS; go_simp; with_reducible rfl
      · go_simp; with_reducible rfl
      refine wpS_take (v := ?_) (a' := ?_) 28 rfl (by kernel_rfl) (by kernel_rfl) (by kernel_rfl) ?_ ?_ ?_
      rotate_left 2
      · refine stepS_yield (by kernel_rfl) ?_; intro wS hS; obtain ⟨⟨z1, z2, z3, z4⟩, z5, z6, z7, z8⟩ := HC.out _ hS; go_simp; with_reducible rfl
      · go_simp; with_reducible rfl
      refine wpS_take (v := ?_) (a' := ?_) 29 rfl (by kernel_rfl) (by kernel_rfl) (by kernel_rfl) ?_ ?_ ?_
      rotate_left 2
      · refine stepS_yield (by kernel_rfl) ?_; intro wS hS; obtain ⟨⟨z1, z2, z3, z4⟩, z5, z6, z7, z8⟩ := HC.out _ hS; go_simp; with_reducible rfl
      · go_simp; with_reducible rfl
      refine wpS_take (v := ?_) (a' := ?_) 30 rfl (by kernel_rfl) (by kernel_rfl) (by kernel_rfl) ?_ ?_ ?_
      rotate_left 2
      · refine stepS_yield (by kernel_rfl) ?_; intro wS hS; obtain ⟨⟨z1, z2, z3, z4⟩, z5, z6, z7, z8⟩ := HC.out _ hS; go_simp; with_reducible rfl
      · go_simp; with_reducible rfl
      refine wpS_take (v := ?_) (a' := ?_) 31 rfl (by kernel_rfl) (by kernel_rfl) (by kernel_rfl) ?_ ?_ ?_
      rotate_left 2
      · refine stepS_yield (by kernel_rfl) ?_; intro wS hS; obtain ⟨⟨z1, z2, z3, z4⟩, z5, z6, z7, z8⟩ := HC.out _ hS; go_simp; with_reducible rfl
      · go_simp; with_reducible rfl
      refine wpS_take (v := ?_) (a' := ?_) 32 rfl (by kernel_rfl) (by kernel_rfl) (by kernel_rfl) ?_ ?_ ?_
      rotate_left 2
      · refine stepS_yield (by kernel_rfl) ?_; intro wS hS; obtain ⟨⟨z1, z2, z3, z4⟩, z5, z6, z7, z8⟩ := HC.out _ hS; go_simp; with_reducible rfl
      · go_simp; with_reducible rfl
      refine wpS_take (v := ?_) (a' := ?_) 33 rfl (by kernel_rfl) (by kernel_rfl) (by kernel_rfl) ?_ ?_ ?_
      rotate_left 2
      · refine stepS_yield (by kernel_rfl) ?_; intro wS hS; obtain ⟨⟨z1, z2, z3, z4⟩, z5, z6, z7, z8⟩ := HC.out _ hS; go_simp; with_reducible rfl
      · go_simp; with_reducible rfl
      refine wpS_take (v := ?_) (a' := ?_) 34 rfl (by kernel_rfl) (by kernel_rfl) (by kernel_rfl) ?_ ?_ ?_
      rotate_left 2
      · refine stepS_yield (by kernel_rfl) ?_; intro wS hS; obtain ⟨⟨z1, z2, z3, z4⟩, z5, z6, z7, z8⟩ := HC.out _ hS; go_simp; with_reducible rfl
      · go_simp; with_reducible rfl
      refine wpS_take (v := ?_) (a' := ?_) 35 rfl (by kernel_rfl) (by kernel_rfl) (by kernel_rfl) ?_ ?_ ?_
      rotate_left 2
      · refine stepS_yield (by kernel_rfl) ?_; intro wS hS; obtain ⟨⟨z1, z2, z3, z4⟩, z5, z6, z7, z8⟩ := HC.out _ hS; go_simp; with_reducible rfl
      · go_simp; with_reducible rfl
      refine wpS_take (v := ?_) (a' := ?_) 36 rfl (by kernel_rfl) (by kernel_rfl) (by kernel_rfl) ?_ ?_ ?_
      rotate_left 2
      · refine stepS_yield (by kernel_rfl) ?_; intro wS hS; obtain ⟨⟨z1, z2, z3, z4⟩, z5, z6, z7, z8⟩ := HC.out _ hS; go_simp; with_reducible rfl
      · go_simp; with_reducible rfl
      refine wpS_end (by kernel_rfl) ?_
      intro w2 hS2
      go_wp2
      go_roundw
      case rel => exact ⟨k + 1, by omega, by go_num, below_then HB.out hS2⟩
      case measure => simp [intOf]; omega
    · go_wp2
      go_ret
      exact ⟨rfl, HB.out⟩
theorem Alike.refl (l : List Tk) : Alike l l := ⟨rfl, fun k _ _ => ⟨rfl, rfl, rfl⟩⟩
theorem places_yes (l : List Tk) (A A' : Option Addr) (c c' : Nat) (hl : l.length ≤ 9000000000000000000) (w : World) (hA : ToksAt w w.heap.size A l) (hA' : ToksAt w w.heap.size A' l) :
    Calls Tryd.prog 10 #[.slice A l.length c, .slice A' l.length c'] w fun e w' => e = .returned (.bool true) ∧ Below w.heap.size w w' := by
  have HA := Lib.hid hA
  have HA' := Lib.hid hA'
  clear hA hA'
  go_enter Tryd.func10, Tryd.ntmps10
  go_wp2_with (go_at_call 17; refine (same_yes l l (Alike.refl l) A A' c c' hl _ HA.out HA'.out).mono ?_; rintro e w1 ⟨rfl, hb1⟩)
  have HB1 := Lib.hid hb1
  clear hb1
  go_loopw [12] (fun z wr => ∃ k : Nat, k ≤ l.length ∧ z = .int .i64 k ∧ Below w.heap.size w wr) (fun z _ => l.length - (intOf z).toNat)
  case atStart => exact ⟨0, Nat.zero_le _, rfl, HB1.out⟩
  case round =>
    obtain ⟨k, hk, rfl, hb⟩ := hrel
    have HB := Lib.hid hb
    clear hb
    by_cases hlt : k < l.length
    · have hz := HB.out.size
      obtain ⟨a1, rfl, b1, c1⟩ := (HA.out.below HB.out).tk hlt
      obtain ⟨a2, rfl, b2, c2⟩ := (HA'.out.below HB.out).tk hlt
      have HC := Lib.hid fun (W : World) (hW : Below wr.heap.size wr W) => And.intro (c1.on hW (by omega)) (c2.on hW (by omega))
      clear c1 c2
      unfold TkCells at HC
      generalize l[k].at_ = x1 at *
      go_wp2
      refine wp_region_S (fun w' => Below wr.heap.size wr w') (by kernel_rfl) (below_drew1 (Below.refl _ _)) ?_
      refine wpS_take (v := ?_) (a' := ?_) 0 rfl (by kernel_rfl) (by kernel_rfl) (by kernel_rfl) ?_ ?_ ?_
      rotate_left 2
      · refine stepS_yield (by kernel_rfl) ?_; intro wS hS; obtain ⟨⟨z1, z2, z3, z4⟩, z5, z6, z7, z8⟩ := HC.out _ hS; go_simp; with_reducible rfl
      · go_simp; with_reducible rfl
      refine wpS_take (v := ?_) (a' := ?_) 1 rfl (by kernel_rfl) (by kernel_rfl) (by kernel_rfl) ?_ ?_ ?_
      rotate_left 2
      · refine stepS_yield (by kernel_rfl) ?_; intro wS hS; obtain ⟨⟨z1, z2, z3, z4⟩, z5, z6, z7, z8⟩ := HC.out _ hS; go_simp; with_reducible rfl
      · go_simp; with_reducible rfl
      refine wpS_take (v := ?_) (a' := ?_) 2 rfl (by kernel_rfl) (by kernel_rfl) (by kernel_rfl) ?_ ?_ ?_
      rotate_left 2
      · refine stepS_yield (by kernel_rfl) ?_; intro wS hS; obtain ⟨⟨z1, z2, z3, z4⟩, z5, z6, z7, z8⟩ := HC.out _ hS; go_simp; with_reducible rfl
      · go_simp; with_reducible rfl
      refine wpS_take (v := ?_) (a' := ?_) 3 rfl (by kernel_rfl) (by kernel_rfl) (by kernel_rfl) ?_ ?_ ?_
      rotate_left 2
      · refine stepS_yield (by kernel_rfl) ?_; intro wS hS; obtain ⟨⟨z1, z2, z3, z4⟩, z5, z6, z7, z8⟩ := HC.out _ hS; go_simp; with_reducible rfl
      · go_simp; with_reducible rfl
      refine wpS_take (v := ?_) (a' := ?_) 4 rfl (by kernel_rfl) (by kernel_rfl) (by kernel_rfl) ?_ ?_ ?_
      rotate_left 2
      · refine stepS_yield (by kernel_rfl) ?_; intro wS hS; obtain ⟨⟨z1, z2, z3, z4⟩, z5, z6, z7, z8⟩ := HC.out _ hS; go_simp; with_reducible rfl
      · go_simp; with_reducible rfl
      refine wpS_take (v := ?_) (a' := ?_) 5 rfl (by kernel_rfl) (by kernel_rfl) (by kernel_rfl) ?_ ?_ ?_
      rotate_left 2
      · refine stepS_yield (by kernel_rfl) ?_; intro wS hS; obtain ⟨⟨z1, z2, z3, z4⟩, z5, z6, z7, z8⟩ := HC.out _ hS; go_simp; with_reducible rfl
      · go_simp; with_reducible rfl
      refine wpS_take (v := ?_) (a' := ?_) 6 rfl (by kernel_rfl) (by kernel_rfl) (by kernel_rfl) ?_ ?_ ?_
      rotate_left 2
      · refine stepS_yield (by kernel_rfl) ?_; intro wS hS; obtain ⟨⟨z1, z2, z3, z4⟩, z5, z6, z7, z8⟩ := HC.out _ hS; go_simp; with_reducible rfl
      · go_simp; with_reducible rfl
      refine wpS_take (v := ?_) (a' := ?_) 7 rfl (by kernel_rfl) (by kernel_rfl) (by kernel_rfl) ?_ ?_ ?_
      rotate_left 2
      · refine stepS_yield (by kernel_rfl) ?_; intro wS hS; obtain ⟨⟨z1, z2, z3, z4⟩, z5, z6, z7, z8⟩ := HC.out _ hS; go_simp; with_reducible rfl
      · go_simp; with_reducible rfl
      refine wpS_take (v := ?_) (a' := ?_) 8 rfl (by kernel_rfl) (by kernel_rfl) (by kernel_rfl) ?_ ?_ ?_
      rotate_left 2
      · refine stepS_yield (by kernel_rfl) ?_; intro wS hS; obtain ⟨⟨z1, z2, z3, z4⟩, z5, z6, z7, z8⟩ := HC.out _ hS; go_simp; with_reducible rfl
      · go_simp; with_reducible rfl
      refine wpS_take (v := ?_) (a' := ?_) 9 rfl (by kernel_rfl) (by kernel_rfl) (by kernel_rfl) ?_ ?_ ?_
      rotate_left 2
      · refine stepS_yield (by kernel_rfl) ?_; intro wS hS; obtain ⟨⟨z1, z2, z3, z4⟩, z5, z6, z7, z8⟩ := HC.out _ hS; go_simp; with_reducible rfl
      · go_simp; with_reducible rfl
      refine wpS_take (v := ?_) (a' := ?_) 10 rfl (by kernel_rfl) (by kernel_rfl) (by kernel_rfl) ?_ ?_ ?_
      rotate_left 2
      · refine stepS_yield (by kernel_rfl) ?_; intro wS hS; obtain ⟨⟨z1, z2, z3, z4⟩, z5, z6, z7, z8⟩ := HC.out _ hS; go_simp; with_reducible rfl
      · go_simp; with_reducible rfl
      refine wpS_end (by kernel_rfl) ?_
      intro w2 hS2
      go_wp2
      go_roundw
      case rel => exact ⟨k + 1, by omega, by go_num, below_then HB.out hS2⟩
      case measure => simp [intOf]; omega
    · go_wp2
      go_ret
      exact ⟨rfl, HB.out⟩

/-! ### Slices of strings -/
def StrsAt (w : World) (B : Nat) (A : Option Addr) (l : List (List UInt8)) : Prop :=
  ∀ (k : Nat) (x : List UInt8), l[k]? = some x → ∃ ad : Addr, A = some ad ∧ ad.block < B ∧ w.cell? (ad.add k) = some (.string (mkS x))
theorem StrsAt.keep {w w' : World} {B : Nat} {A : Option Addr} {xs : List (List UInt8)} (h : StrsAt w B A xs) (hk : ∀ p : Addr, p.block < B → w'.cell? p = w.cell? p) : StrsAt w' B A xs := fun k x hx => by
  obtain ⟨ad, e, hb, hc⟩ := h k x hx
  exact ⟨ad, e, hb, (hk _ (by rw [block_add]; exact hb)).trans hc⟩
theorem StrsAt.below {w w' : World} {B : Nat} {A : Option Addr} {xs : List (List UInt8)} (h : StrsAt w B A xs) (hb : Below B w w') : StrsAt w' B A xs := h.keep fun _ hp => hb.cell hp
theorem StrsAt.more {w : World} {B B' : Nat} {A : Option Addr} {xs : List (List UInt8)} (h : StrsAt w B A xs) (hB : B ≤ B') : StrsAt w B' A xs := fun k x hx => by
  obtain ⟨ad, e, hb, hc⟩ := h k x hx
  exact ⟨ad, e, by omega, hc⟩
theorem StrsAt.at_ {w : World} {B : Nat} {A : Option Addr} {xs : List (List UInt8)} (h : StrsAt w B A xs) {k : Nat} (hk : k < xs.length) : ∃ ad : Addr, A = some ad ∧ ad.block < B ∧ w.cell? (ad.add k) = some (.string (mkS xs[k])) := h k _ (List.getElem?_eq_getElem hk)
def strV (l : List (List UInt8)) : List Value := l.map fun s => Value.string (mkS s)
theorem strs_new (w : World) (l : List (List UInt8)) (t : TypeId) : StrsAt (w.alloc (.cells (strV l).toArray t)) (w.alloc (.cells (strV l).toArray t)).heap.size (some ⟨w.heap.size, 0, none⟩) l := fun k x hx =>
  ⟨_, rfl, by simp, new_cells w (strV l) t k _ (by unfold strV; rw [List.getElem?_map, hx]; rfl)⟩
/-- What a table's call returns. -/
def TabPost (l : List (List UInt8)) (w : World) (e : Ending) (w' : World) : Prop := ∃ A c, e = .returned (.slice A l.length c) ∧ StrsAt w' w'.heap.size A l ∧ Below w.heap.size w w'
theorem rwords_any (w : World) : Calls Tryd.prog 13 #[] w (TabPost Kws w) := by
  go_enter Tryd.func13, Tryd.ntmps13
  go_wp2
  go_ret
  try rw [World.setRow_alloc_new]
  exact ⟨_, _, rfl, strs_new w Kws _, (Below.refl _ _).alloc (Nat.le_refl _) _⟩
theorem rsigns_any (w : World) : Calls Tryd.prog 14 #[] w (TabPost Sgs w) := by
  go_enter Tryd.func14, Tryd.ntmps14
  go_wp2
  go_ret
  try rw [World.setRow_alloc_new]
  exact ⟨_, _, rfl, strs_new w Sgs _, (Below.refl _ _).alloc (Nat.le_refl _) _⟩
theorem words_one : kwV.all (·.oneCell') = true := by kernel_rfl
theorem words_any (w : World) (hT : Tabs w) : Calls Tryd.prog 11 #[] w (TabPost Kws w) := by
  obtain ⟨tt, fr, hg⟩ := strTab_block hT.1 gKw
  have HG : Hid (w.heap[0]? = some (.cells kwV tt fr)) := Lib.hid hg
  have hlt := (Array.getElem?_eq_some_iff.1 hg).1
  clear hg hT
  go_enter Tryd.func11, Tryd.ntmps11
  go_wp2_with (first | (refine wpList_load_row rfl 45 _ rfl 0 rfl tt kwV fr _ HG.out Tryd.underlying45 rfl kwI ?_) | (refine wpList_store_row rfl 45 _ _ rfl w.heap.size kwV rfl rfl 45 _ (heap_new1 _ _) kwI rfl words_one ?_))
  go_ret
  try rw [World.setRow_alloc_new]
  exact ⟨_, _, rfl, strs_new w Kws _, (Below.refl _ _).alloc (Nat.le_refl _) _⟩
theorem signs_one : sgV.all (·.oneCell') = true := by kernel_rfl
theorem signs_any (w : World) (hT : Tabs w) : Calls Tryd.prog 12 #[] w (TabPost Sgs w) := by
  obtain ⟨tt, fr, hg⟩ := strTab_block hT.2 gSg
  have HG : Hid (w.heap[1]? = some (.cells sgV tt fr)) := Lib.hid hg
  have hlt := (Array.getElem?_eq_some_iff.1 hg).1
  clear hg hT
  go_enter Tryd.func12, Tryd.ntmps12
  go_wp2_with (first | (refine wpList_load_row rfl 46 _ rfl 1 rfl tt sgV fr _ HG.out Tryd.underlying46 rfl sgI ?_) | (refine wpList_store_row rfl 46 _ _ rfl w.heap.size sgV rfl rfl 46 _ (heap_new1 _ _) sgI rfl signs_one ?_))
  go_ret
  try rw [World.setRow_alloc_new]
  exact ⟨_, _, rfl, strs_new w Sgs _, (Below.refl _ _).alloc (Nat.le_refl _) _⟩
end Go.Proofs.YtkogfdbmgdajdaaDoor
