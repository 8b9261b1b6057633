/-
  CONTRACTS OF PACKAGE pos: the iterator over the lines, At, Of, Show.
-/
import Derived.RangeFuncNested
import Derived.RangeFuncBound
import Derived.RangeFuncCalls
import Derived.RangeFuncLeaves
import Derived.RangeFuncBox
import Derived.Shelf.Abstract
import Derived.Shelf.RegionOpen
import Derived.OwnWalkIn
import Derived.TacticsInMore
import Derived.LoopNIn
import Derived.LoopIn
import Derived.Test.YtnpmipmdffbpdaaDoorPosM
import Derived.Test.YtnpmipmdffbpdaaDoorShow
namespace Go.Proofs.YtnpmipmdffbpdaaDoor
open Go.ChangeShapes Go.WideShapes Go.ChangeAt Go.RowKit Go.Shelf
set_option linter.unusedVariables false
attribute [local go_sem] Oper.semAt_some

/-- The byte at k is 10. -/
def nlS (s : ByteArray) (k : Nat) : Bool := if h : k < s.size then decide (s[k].toNat = 10) else false
theorem nlS_yes {s : ByteArray} {k : Nat} (h : k < s.size) (e : s[k].toNat = 10) : nlS s k = true := by simp [nlS, h, e]
theorem nlS_no {s : ByteArray} {k : Nat} (h : k < s.size) (e : ¬ s[k].toNat = 10) : nlS s k = false := by simp [nlS, h, e]

def mn (s : ByteArray) (e : Nat) : Nat := min e s.size
theorem mn_le (s : ByteArray) (e : Nat) : mn s e ≤ s.size := by unfold mn; omega
theorem mn_eq {s : ByteArray} {e : Nat} (h : e ≤ s.size) : mn s e = e := by unfold mn; omega
/-- What yield is handed at the line that ends at e. -/
def encL (s : ByteArray) (e : Nat) : Array Value := #[.int .i64 (ln (nlS s) (mn s e) : Nat), .agg #[.int .i64 (fs (nlS s) (mn s e) : Nat), .int .i64 (mn s e : Nat)]]

set_option maxRecDepth 100000 in
set_option maxHeartbeats 2000000 in
theorem lines1_in (F : Fence) (n : Nat) (hF : F.fn 16) (hro : F.round = none) (hn : 1 ≤ n) (l Bs n₀ : Nat) (s : ByteArray) (hs : s.size ≤ 4611686018427387904) (hBs : Bs < n₀) (J Jx : List Nat → World → Prop)
    (hY : ∀ pre x W, J pre W → pre.length < s.size + 1 → YieldAt F (n - 1) Tryd.prog l (encL s x) W fun e W' =>
      (e = .returned (.bool true) ∧ J (pre ++ [x]) W' ∧ Below n₀ W W') ∨ (e = .returned (.bool false) ∧ Jx (pre ++ [x]) W'))
    (W : World) (hc : W.cell? ⟨Bs, 0, none⟩ = some (.string s)) (h0 : J [] W) :
    CallsIn F n Tryd.prog 16 #[.func (.yield l) #[] #[], .pointer (some ⟨Bs, 0, none⟩)] W fun e W' => (∃ v, e = .returned v) ∧
      ((∃ ys, ys = nls (nlS s) s.size ++ [s.size] ∧ J ys W') ∨ (∃ pre, (∃ m e, pre = m ++ [e] ∧ (e ∈ nls (nlS s) s.size ∨ e = s.size)) ∧ Jx pre W')) := by
  refine callsIn_of_wp Tryd.func16 rfl hF ?_ hro
  simp only [Tryd.ntmps16, List.size_toArray, List.length_cons, List.length_nil, Nat.reduceAdd, Nat.reduceSub, Array.replicate_succ, Array.replicate_zero, List.push_toArray, List.append_toArray, List.nil_append, List.cons_append]
  gi_wp2
  gi_loopw [3, 4, 8] (fun a b i wr => ∃ k : Nat, k ≤ s.size ∧ a = .int .i64 (ln (nlS s) k : Nat) ∧ b = .int .i64 (fs (nlS s) k : Nat) ∧ i = .int .i64 k ∧ J (nls (nlS s) k) wr ∧ Below n₀ W wr)
    (fun _ _ i _ => s.size - (intOf i).toNat)
  case atStart => exact ⟨0, Nat.zero_le _, rfl, rfl, rfl, h0, Below.refl _ _⟩
  case round =>
    obtain ⟨k, hk, rfl, rfl, rfl, hJs, hnx⟩ := hrel
    have hcx : wr.cell? ⟨Bs, 0, none⟩ = some (.string s) := (hnx.cell (p := ⟨Bs, 0, none⟩) hBs).trans hc
    have b1 := ln_le (nl := nlS s) k
    have b2 := fs_le (nl := nlS s) k
    have b3 := nls_len (nl := nlS s) k
    by_cases hlt : k < s.size
    · by_cases h10 : s[k].toNat = 10
      · have hnl := Lib.hid (nlS_yes hlt h10)
        obtain ⟨fn, tmps, assign, body, hy, hR⟩ := hY _ k wr hJs (by omega)
        unfold encL at hy
        rw [mn_eq hk] at hy
        gi_wp2
        refine hR.mono ?_
        rintro e W3 (⟨rfl, hJ3, hk3⟩ | ⟨rfl, hJx3⟩)
        · gi_wp2
          go_roundw
          case rel => exact ⟨k + 1, by omega, by rw [ln_yes hnl.out]; go_num, by rw [fs_yes hnl.out]; go_num, by simp, by rw [nls_yes hnl.out]; exact hJ3, hnx.trans hk3⟩
          case measure => simp [intOf]; omega
        · gi_wp2
          refine bodyPost_ret (results_none rfl _ _ _) rfl ?_
          exact ⟨⟨_, rfl⟩, .inr ⟨_, ⟨_, k, rfl, .inl (mem_nls.2 ⟨hlt, hnl.out⟩)⟩, hJx3⟩⟩
      · have hnl := Lib.hid (nlS_no hlt h10)
        gi_wp2
        go_roundw
        case rel => exact ⟨k + 1, by omega, by rw [ln_no hnl.out], by rw [fs_no hnl.out], by simp, by rw [nls_no hnl.out]; exact hJs, hnx⟩
        case measure => simp [intOf]; omega
    · obtain rfl : k = s.size := by omega
      obtain ⟨fn, tmps, assign, body, hy, hR⟩ := hY _ s.size wr hJs (by omega)
      unfold encL at hy
      rw [mn_eq (Nat.le_refl _)] at hy
      gi_wp2
      refine hR.mono ?_
      rintro e W3 (⟨rfl, hJ3, hk3⟩ | ⟨rfl, hJx3⟩)
      · gi_wp2
        go_end0
        exact ⟨⟨_, rfl⟩, .inl ⟨_, rfl, hJ3⟩⟩
      · gi_wp2
        go_end0
        exact ⟨⟨_, rfl⟩, .inr ⟨_, ⟨_, s.size, rfl, .inr rfl⟩, hJx3⟩⟩
theorem lines_in (F : Fence) (n : Nat) (hF : F.fn 13) (hro : F.round = none) (s : ByteArray) (w : World) :
    CallsIn F n Tryd.prog 13 #[.string s] w fun e w' => e = .returned (.func (.func 16) #[] #[.pointer (some ⟨w.heap.size, 0, none⟩)]) ∧ w' = w.alloc (.cells #[.string s] 9) := by
  refine callsIn_of_wp Tryd.func13 rfl hF ?_ hro
  simp only [Tryd.ntmps13, List.size_toArray, List.length_cons, List.length_nil, Nat.reduceAdd, Nat.reduceSub, Array.replicate_succ, Array.replicate_zero, List.push_toArray, List.append_toArray, List.nil_append, List.cons_append]
  gi_wp2
  go_ret
  exact ⟨rfl, rfl⟩
theorem lines_stops (F : Fence) (n : Nat) (hF : F.fn 16) (hro : F.round = none) (hn : 1 ≤ n) (Bs n₀ : Nat) (s : ByteArray) (hs : s.size ≤ 4611686018427387904) (w : World) (hBs : Bs < n₀) (hn₀ : n₀ ≤ w.heap.size)
    (hc : w.cell? ⟨Bs, 0, none⟩ = some (.string s)) :
    SeqStopsK F n Tryd.prog 16 #[.pointer (some ⟨Bs, 0, none⟩)] (encL s) (Below n₀) (fun ys => ys = nls (nlS s) s.size ++ [s.size]) (fun pre => ∃ m e, pre = m ++ [e] ∧ (e ∈ nls (nlS s) s.size ∨ e = s.size)) (s.size + 1) w := fun l J Jx W hW _ _ hY h0 =>
  lines1_in F n hF hro hn l Bs n₀ s hs hBs J Jx hY W ((hW.cell (p := ⟨Bs, 0, none⟩) (show Bs < w.heap.size by omega)).trans hc) h0

/-- What At returns for an offset in the range. -/
def spotV (s : ByteArray) (k : Nat) : Value := .tuple #[.agg #[.int .i64 (ln (nlS s) k : Nat), .int .i64 (cl (nlS s) k : Nat)], .bool true]
def noSpot : Value := .tuple #[.agg #[.int .i64 0, .int .i64 0], .bool false]
def Hit (s : ByteArray) (a : Int) (e : Nat) : Prop := (fs (nlS s) e : Nat) ≤ a ∧ a ≤ e
/-- What At has found: the offset's spot. -/
def AtR (s : ByteArray) (a : Int) (v : Value) : Prop := (0 ≤ a ∧ a ≤ s.size ∧ v = spotV s a.toNat) ∨ (¬ (0 ≤ a ∧ a ≤ s.size) ∧ v = noSpot)

def AtX (s : ByteArray) (a : Int) (w : World) (c : Code) (pre : List Nat) (W : World) : Prop :=
  c = .ret ∧ ∃ ini x last, pre = ini ++ [x] ∧ mn s x = last ∧ Hit s a last ∧
    W.cell? ⟨w.heap.size + 1, 0, none⟩ = some (.int .i64 (ln (nlS s) last : Nat)) ∧ W.cell? ⟨w.heap.size + 1, 1, none⟩ = some (.int .i64 (a - (fs (nlS s) last : Nat) + 1)) ∧
    W.cell? ⟨w.heap.size + 1 + 1, 0, none⟩ = some (.bool true)
theorem atX_own (s : ByteArray) (a : Int) (w : World) (c : Code) : Own (AtX s a w c) := fun pre A B row hs hg hr => by
  obtain ⟨hc, ini, x, last, e1, e0, e2, h3, h4, h6⟩ := hs
  exact ⟨hc, ini, x, last, e1, e0, e2, cell_kept h3 hg hr, cell_kept h4 hg hr, cell_kept h6 hg hr⟩
/-- The loop variable's box. -/
def LineBox (s : ByteArray) (B Bx : Nat) (x : Nat) (W : World) : Prop := B ≤ Bx ∧ W.heap[Bx]? = some (.cells #[.int .i64 (fs (nlS s) x : Nat), .int .i64 (x : Nat)] 36 (0, 0))
theorem lineBox_own (s : ByteArray) (B Bx x : Nat) : Own (fun (_ : Unit) W => LineBox s B Bx x W) := fun _ X Y row hs hg hrow =>
  ⟨hs.1, (hg.block Bx (Array.getElem?_eq_some_iff.1 hs.2).1 (fun e' => by obtain ⟨o, ho, hc⟩ := hrow Bx e'.symm; rw [hs.2] at ho; cases ho; cases hc)).trans hs.2⟩
theorem block_cell {W : World} {B j : Nat} {cs : Array Value} {t : TypeId} {v : Value} (h : W.heap[B]? = some (.cells cs t (0, 0))) (hj : cs[j]? = some v) : W.cell? ⟨B, j, none⟩ = some v := by
  simp [World.cell?, h, hj]
theorem block_free {W : World} {B j : Nat} {cs : Array Value} {t : TypeId} (h : W.heap[B]? = some (.cells cs t (0, 0))) : W.frozen? ⟨B, j, none⟩ = false := by simp [World.frozen?, h]
theorem LineBox.cells {s : ByteArray} {B Bx x : Nat} {W : World} (h : LineBox s B Bx x W) : W.cell? ⟨Bx, 0, none⟩ = some (.int .i64 (fs (nlS s) x : Nat)) ∧ W.cell? ⟨Bx, 1, none⟩ = some (.int .i64 (x : Nat)) :=
  ⟨block_cell h.2 rfl, block_cell h.2 rfl⟩
theorem heap_new (w : World) (o : Obj) : (w.alloc o).heap[w.heap.size]? = some o := World.alloc_heap_new w o
theorem heap_old {w : World} {B : Nat} {o : Obj} (o' : Obj) (h : w.heap[B]? = some o) : (w.alloc o').heap[B]? = some o := (Below.heap_alloc w o' B (Array.getElem?_eq_some_iff.1 h).1).trans h

/-- The boxes of At's and Of's results, in a world that has kept them. -/
theorem boxes {W0 W : World} {B : Nat} {cs ds : Array Value} {t u : TypeId} (hB : Below W0.heap.size W0 W) (g1 : W0.heap[B + 1]? = some (.cells cs t (0, 0))) (g2 : W0.heap[B + 1 + 1]? = some (.cells ds u (0, 0))) :
    (∀ j v, cs[j]? = some v → W.cell? ⟨B + 1, j, none⟩ = some v) ∧ (∀ j v, ds[j]? = some v → W.cell? ⟨B + 1 + 1, j, none⟩ = some v) ∧ (∀ j, W.frozen? ⟨B + 1, j, none⟩ = false) ∧ (∀ j, W.frozen? ⟨B + 1 + 1, j, none⟩ = false) :=
  have k1 := (hB.block _ (Array.getElem?_eq_some_iff.1 g1).1).trans g1
  have k2 := (hB.block _ (Array.getElem?_eq_some_iff.1 g2).1).trans g2
  ⟨fun _ _ h => block_cell k1 h, fun _ _ h => block_cell k2 h, fun _ => block_free k1, fun _ => block_free k2⟩

theorem cell_other {W : World} {a b : Addr} {v : Value} (h : a ≠ b) : (W.setCell a v).cell? b = W.cell? b := World.cell?_setCell_other W a b v h
/-- The three stores of a result (two cells and one). -/
theorem three {W : World} {B : Nat} {x y z o1 o2 o3 : Value} (c1 : W.cell? ⟨B + 1, 0, none⟩ = some o1) (c2 : W.cell? ⟨B + 1, 1, none⟩ = some o2) (c3 : W.cell? ⟨B + 1 + 1, 0, none⟩ = some o3) :
    (((W.setCell ⟨B + 1, 0, none⟩ x).setCell ⟨B + 1, 1, none⟩ y).setCell ⟨B + 1 + 1, 0, none⟩ z).cell? ⟨B + 1, 0, none⟩ = some x ∧
    (((W.setCell ⟨B + 1, 0, none⟩ x).setCell ⟨B + 1, 1, none⟩ y).setCell ⟨B + 1 + 1, 0, none⟩ z).cell? ⟨B + 1, 1, none⟩ = some y ∧
    (((W.setCell ⟨B + 1, 0, none⟩ x).setCell ⟨B + 1, 1, none⟩ y).setCell ⟨B + 1 + 1, 0, none⟩ z).cell? ⟨B + 1 + 1, 0, none⟩ = some z := by
  have a1 := World.cell?_setCell_same' W ⟨B + 1, 0, none⟩ x (by rw [c1]; rfl)
  have a2 : (W.setCell ⟨B + 1, 0, none⟩ x).cell? ⟨B + 1, 1, none⟩ = some o2 := (cell_other (by simp)).trans c2
  have a3 : (W.setCell ⟨B + 1, 0, none⟩ x).cell? ⟨B + 1 + 1, 0, none⟩ = some o3 := (cell_other (by simp)).trans c3
  have b1 : ((W.setCell ⟨B + 1, 0, none⟩ x).setCell ⟨B + 1, 1, none⟩ y).cell? ⟨B + 1, 0, none⟩ = some x := (cell_other (by simp)).trans a1
  have b2 := World.cell?_setCell_same' (W.setCell ⟨B + 1, 0, none⟩ x) ⟨B + 1, 1, none⟩ y (by rw [a2]; rfl)
  have b3 : ((W.setCell ⟨B + 1, 0, none⟩ x).setCell ⟨B + 1, 1, none⟩ y).cell? ⟨B + 1 + 1, 0, none⟩ = some o3 := (cell_other (by simp)).trans a3
  exact ⟨(cell_other (by simp)).trans b1, (cell_other (by simp)).trans b2, World.cell?_setCell_same' _ _ _ (by rw [b3]; rfl)⟩
theorem three_below {w W : World} (h : Below w.heap.size w W) (x y z : Value) :
    Below w.heap.size w (((W.setCell ⟨w.heap.size + 1, 0, none⟩ x).setCell ⟨w.heap.size + 1, 1, none⟩ y).setCell ⟨w.heap.size + 1 + 1, 0, none⟩ z) :=
  ((h.setCell (p := ⟨w.heap.size + 1, 0, none⟩) (by simp) _).setCell (p := ⟨w.heap.size + 1, 1, none⟩) (by simp) _).setCell (p := ⟨w.heap.size + 1 + 1, 0, none⟩) (by simp; omega) _
theorem three_keeps (W : World) (B : Nat) (x y z : Value) : KeepsOthers W (((W.setCell ⟨B + 1, 0, none⟩ x).setCell ⟨B + 1, 1, none⟩ y).setCell ⟨B + 1 + 1, 0, none⟩ z) :=
  (KeepsOthers.setCell _ _ _).trans ((KeepsOthers.setCell _ _ _).trans (KeepsOthers.setCell _ _ _))
theorem hit_in {s : ByteArray} {a : Int} {e : Nat} (h : Hit s a e) (he : e ≤ s.size) : 0 ≤ a ∧ a ≤ s.size ∧ ln (nlS s) e = ln (nlS s) a.toNat ∧ a - (fs (nlS s) e : Nat) + 1 = (cl (nlS s) a.toNat : Nat) := by
  have h1 := h.1
  have h2 := h.2
  obtain ⟨i1, i2⟩ := in_line (nl := nlS s) (e := e) (a := a.toNat) (by omega) (by omega)
  have := fs_le (nl := nlS s) a.toNat
  refine ⟨by omega, by omega, i1.symm, ?_⟩
  unfold cl
  omega
theorem ends_le {s : ByteArray} {e : Nat} (h : e ∈ nls (nlS s) s.size ++ [s.size]) : e ≤ s.size :=
  (List.mem_append.1 h).elim (fun h => Nat.le_of_lt (mem_nls.1 h).1) (fun h => by rw [List.mem_singleton.1 h]; exact Nat.le_refl _)
theorem none_in {s : ByteArray} {a : Int} (h : ∀ e ∈ nls (nlS s) s.size ++ [s.size], ¬ Hit s a (mn s e)) : ¬ (0 ≤ a ∧ a ≤ s.size) := fun ⟨h0, h1⟩ => by
  obtain ⟨e, he, h2, h3⟩ := has_line (nl := nlS s) (n := s.size) (a := a.toNat) (by omega)
  have hm := List.mem_append.2 (he.imp id (fun h => List.mem_singleton.2 h))
  exact h e hm (by rw [mn_eq (ends_le hm)]; exact ⟨by omega, by omega⟩)

set_option maxRecDepth 100000 in
set_option maxHeartbeats 4000000 in
theorem at_in (F : Fence) (n : Nat) (hF : F.fn 7) (hF1 : F.fn 13) (hF2 : F.fn 16) (hro : F.round = none) (hn : 3 ≤ n) (s : ByteArray) (hs : s.size ≤ 4611686018427387904) (a : Int) (ha : -9223372036854775808 ≤ a) (hb : a ≤ 9223372036854775807) (w : World) :
    CallsIn F n Tryd.prog 7 #[.string s, .int .i64 a] w fun e W' => ∃ v, e = .returned v ∧ AtR s a v ∧ Below w.heap.size w W' := by
  have h1 : 1 ≤ n := by omega
  refine callsIn_of_wp_marks Tryd.func7 rfl hF ?_ hro
  simp only [Tryd.ntmps7, List.size_toArray, List.length_cons, List.length_nil, Nat.reduceAdd, Nat.reduceSub, Array.replicate_succ, Array.replicate_zero, List.push_toArray, List.append_toArray, List.nil_append, List.cons_append]
  gi_wp2_with (gi_at_call 13; refine (lines_in F (n - 1) hF1 hro _ _).mono ?_; rintro e w' ⟨rfl, rfl⟩)
  obtain ⟨W0, hW0⟩ : ∃ W0, ((((w.alloc (.cells #[.int .i64 a] 3)).alloc (.cells #[.int .i64 0, .int .i64 0] 23)).alloc (.cells #[.bool false] 4)).alloc (.cells #[.string s] 9)) = W0 := ⟨_, rfl⟩
  have g0 : W0.heap[w.heap.size]? = some (.cells #[.int .i64 a] 3 (0, 0)) := by rw [← hW0]; exact heap_old _ (heap_old _ (heap_old _ (heap_new _ _)))
  have g1 : W0.heap[w.heap.size + 1]? = some (.cells #[.int .i64 0, .int .i64 0] 23 (0, 0)) := by rw [← hW0]; exact heap_old _ (heap_old _ (by simpa using heap_new (w.alloc (.cells #[.int .i64 a] 3)) (.cells #[.int .i64 0, .int .i64 0] 23)))
  have g2 : W0.heap[w.heap.size + 1 + 1]? = some (.cells #[.bool false] 4 (0, 0)) := by rw [← hW0]; exact heap_old _ (by simpa using heap_new ((w.alloc (.cells #[.int .i64 a] 3)).alloc (.cells #[.int .i64 0, .int .i64 0] 23)) (.cells #[.bool false] 4))
  have g3 : W0.heap[w.heap.size + 1 + 1 + 1]? = some (.cells #[.string s] 9 (0, 0)) := by rw [← hW0]; simpa using heap_new (((w.alloc (.cells #[.int .i64 a] 3)).alloc (.cells #[.int .i64 0, .int .i64 0] 23)).alloc (.cells #[.bool false] 4)) (.cells #[.string s] 9)
  have hsz : W0.heap.size = w.heap.size + 4 := by rw [← hW0]; simp
  have hB0 : Below w.heap.size w W0 := by rw [← hW0]; exact ((((Below.refl _ _).alloc (Nat.le_refl _) _).alloc (by simp) _).alloc (by simp; omega) _).alloc (by simp; omega) _
  rw [hW0]
  clear hW0
  refine wpIn_rangeFunc_ownH hro h1 (gf := 16) (lb := #[.pointer (some ⟨w.heap.size + 1 + 1 + 1, 0, none⟩)]) rfl hF2 (enters_of Tryd.func16 (by kernel_rfl) rfl)
    (lines_stops F (n - 1) hF2 hro (by omega) (w.heap.size + 1 + 1 + 1) W0.heap.size s hs W0 (by omega) (Nat.le_refl _) (block_cell g3 rfl)) belowK_t (belowK_b (Nat.le_refl _)) (Below.refl _ _) (fun _ => rfl)
    (fun pre W => (∀ e ∈ pre, ¬ Hit s a (mn s e)) ∧ Below W0.heap.size W0 W)
    (fun c pre W => AtX s a w c pre W ∧ Below w.heap.size w W)
    (OwnFrom.and (ownFrom_pure _ _) (ownFrom_below (Nat.le_refl _) (Nat.le_refl _)))
    (fun c => OwnFrom.and (Own.from (atX_own s a w c) _) (ownFrom_below (Nat.le_refl _) (by omega)))
    ⟨by simp, Below.refl _ _⟩
    (fun x a' W => ∃ Bx m, mn s x = m ∧ LineBox s W0.heap.size Bx m W ∧ a' = { tmps := #[.string s, .int .i64 a, undef, .pointer (some ⟨w.heap.size, 0, none⟩), .pointer (some ⟨w.heap.size + 1, 0, none⟩), .pointer (some ⟨w.heap.size + 1 + 1, 0, none⟩), .int .i64 (ln (nlS s) m : Nat), .pointer (some ⟨Bx, 0, none⟩), .string s,
      .func (.func 16) #[] #[.pointer (some ⟨w.heap.size + 1 + 1 + 1, 0, none⟩)], .int .i64 (ln (nlS s) m : Nat), .agg #[.int .i64 (fs (nlS s) m : Nat), .int .i64 (m : Nat)], undef, undef, undef, undef, undef, undef, undef, undef, undef, undef, undef, undef, undef, undef, undef, undef, undef, undef], defers := [] })
    (fun x a' _ X Y row hs hg hr => by obtain ⟨Bx, m, h1, h2, h3⟩ := hs; exact ⟨Bx, m, h1, lineBox_own s _ Bx m () X Y row h2 hg (fun r e => (hr r e).2), h3⟩) ?assign ?body ?done ?stop
  case assign =>
    rintro l pre x W K ⟨hi, hB⟩ hK
    unfold encL
    gi_wp2
    exact hK _ _ ((KeepsOthers.alloc _ _).from _) ((Below.refl _ W).alloc hB.size _) ⟨hi, hB.alloc hB.size _⟩ ⟨W.heap.size, _, rfl, ⟨hB.size, heap_new _ _⟩, rfl⟩
  case body =>
    rintro l pre x₀ a' W hl - ⟨hi, hB⟩ ⟨Bx, x, hx, hbx, rfl⟩ hlt
    have hxs : x ≤ s.size := by rw [← hx]; exact mn_le s x₀
    have HMN := Lib.hid hx
    clear hx
    obtain ⟨x0, x1⟩ := hbx.cells
    have c0 := block_cell (j := 0) (v := .int .i64 a) ((hB.block _ (Array.getElem?_eq_some_iff.1 g0).1).trans g0) rfl
    obtain ⟨q1, q2, q3, q4⟩ := boxes hB g1 g2
    have c1 := q1 0 _ rfl
    have c1' := q1 1 _ rfl
    have c2 := q2 0 _ rfl
    have f1 := q3 0
    have f1' := q3 1
    have f2 := q4 0
    clear q1 q2 q3 q4
    have b1 := ln_le (nl := nlS s) x
    have b2 := fs_le (nl := nlS s) x
    have HX := Lib.hid hbx
    have HSZ := Lib.hid hsz
    clear hbx hsz
    by_cases h1 : (fs (nlS s) x : Nat) ≤ a
    · by_cases h2 : a ≤ x
      · gi_wp2
        obtain ⟨d1, d2, d3⟩ := three (x := .int .i64 (ln (nlS s) x : Nat)) (y := .int .i64 (a - (fs (nlS s) x : Nat) + 1)) (z := .bool true) c1 c1' c2
        exact ⟨(three_keeps _ _ _ _ _).from _, ⟨rfl, pre, x₀, x, rfl, HMN.out, ⟨h1, h2⟩, d1, d2, d3⟩, three_below (hB0.trans (hB.mono hB0.size)) _ _ _⟩
      · gi_wp2
        exact ⟨KeepsFrom.refl _ _, Below.refl _ _, fun e he => (List.mem_append.1 he).elim (hi e) (fun he => by obtain rfl := List.mem_singleton.1 he; rw [HMN.out]; exact fun h => absurd h.2 (by omega)), hB⟩
    · gi_wp2
      exact ⟨KeepsFrom.refl _ _, Below.refl _ _, fun e he => (List.mem_append.1 he).elim (hi e) (fun he => by obtain rfl := List.mem_singleton.1 he; rw [HMN.out]; exact fun h => absurd h.1 (by omega)), hB⟩
  case done =>
    rintro D ys W hD rfl ⟨hi, hB⟩ hK
    obtain ⟨q1, q2, q3, q4⟩ := boxes hB g1 g2
    have c1 := q1 0 _ rfl
    have c1' := q1 1 _ rfl
    have c2 := q2 0 _ rfl
    have f1 := q3 0
    have f1' := q3 1
    have f2 := q4 0
    clear q1 q2 q3 q4
    have HSZ := Lib.hid hsz
    have HHI := Lib.hid hi
    clear hsz hi
    gi_wp2
    obtain ⟨d1, d2, d3⟩ := three (x := .int .i64 0) (y := .int .i64 0) (z := .bool false) c1 c1' c2
    have hK' := (three_keeps W w.heap.size (.int .i64 0) (.int .i64 0) (.bool false)).same D _ hK rfl
    refine ⟨by simp, .inl ⟨_, _, rfl, run_takeDeferred hK', ?_⟩⟩
    have e1 := cell_kept d1 (grownBy_putObj' _ D (.deferred none)) (fun r e => by cases e; exact ⟨_, hK', rfl⟩)
    have e2 := cell_kept d2 (grownBy_putObj' _ D (.deferred none)) (fun r e => by cases e; exact ⟨_, hK', rfl⟩)
    have e3 := cell_kept d3 (grownBy_putObj' _ D (.deferred none)) (fun r e => by cases e; exact ⟨_, hK', rfl⟩)
    refine ⟨noSpot, ?_, noSpot, rfl, .inr ⟨none_in HHI.out, rfl⟩, (three_below (hB0.trans (hB.mono hB0.size)) _ _ _).trans (belowK_b (w := w) (Nat.le_refl _) _ D _ _ (by have := HSZ.out; omega) hK' rfl rfl)⟩
    simp [results, Tryd.f7, go_sem, e1, e2, e3, noSpot]
  case stop =>
    rintro D c pre W hD ⟨m, e, rfl, he⟩ ⟨⟨rfl, ini, x₀, last, e1, e0, e2, h3, h4, h6⟩, hB⟩ hK
    obtain ⟨rfl, e5⟩ := List.append_inj' e1 rfl
    obtain rfl : e = x₀ := by simpa using e5
    obtain rfl : e = last := by rw [← e0]; exact (mn_eq (he.elim (fun h => Nat.le_of_lt (mem_nls.1 h).1) (fun h => by omega))).symm
    obtain ⟨i1, i2, i3, i4⟩ := hit_in e2 (he.elim (fun h => Nat.le_of_lt (mem_nls.1 h).1) (fun h => by omega))
    rw [i4] at h4
    rw [i3] at h3
    clear e1 e5 i4 i3 he e0
    have HSZ := Lib.hid hsz
    clear hsz
    gi_wp2
    refine ⟨by simp, .inl ⟨_, _, rfl, run_takeDeferred hK, ?_⟩⟩
    have k1 := cell_kept h3 (grownBy_putObj' _ D (.deferred none)) (fun r e => by cases e; exact ⟨_, hK, rfl⟩)
    have k2 := cell_kept h4 (grownBy_putObj' _ D (.deferred none)) (fun r e => by cases e; exact ⟨_, hK, rfl⟩)
    have k3 := cell_kept h6 (grownBy_putObj' _ D (.deferred none)) (fun r e => by cases e; exact ⟨_, hK, rfl⟩)
    refine ⟨spotV s a.toNat, ?_, spotV s a.toNat, rfl, .inl ⟨i1, i2, rfl⟩, hB.trans (belowK_b (w := w) (Nat.le_refl _) _ D _ _ (by have := HSZ.out; omega) hK rfl rfl)⟩
    simp [results, Tryd.f7, go_sem, k1, k2, k3, spotV]
/-- **At.** -/
theorem at_any (s : ByteArray) (hs : s.size ≤ 4611686018427387904) (a : Int) (ha : -9223372036854775808 ≤ a) (hb : a ≤ 9223372036854775807) (w : World) :
    Calls Tryd.prog 7 #[.string s, .int .i64 a] w fun e W' => ∃ v, e = .returned v ∧ AtR s a v ∧ Below w.heap.size w W' :=
  callsIn_wide.1 (at_in Fence.wide 3 trivial trivial trivial rfl (by omega) s hs a ha hb w)

/-! ### Of -/
/-- What Of returns: the offset whose spot is (x, y). -/
def OfR (s : ByteArray) (x y : Int) (v : Value) : Prop :=
  (∃ k, SpotAt (nlS s) s.size x y k ∧ v = .tuple #[.int .i64 (k : Nat), .bool true]) ∨ ((∀ k, ¬ SpotAt (nlS s) s.size x y k) ∧ v = .tuple #[.int .i64 0, .bool false])
def Pit (s : ByteArray) (x y : Int) (e : Nat) : Prop := (ln (nlS s) e : Nat) = x ∧ 1 ≤ y ∧ y ≤ (e : Int) - (fs (nlS s) e : Nat) + 1
def OfX (s : ByteArray) (x y : Int) (w : World) (c : Code) (pre : List Nat) (W : World) : Prop :=
  c = .ret ∧ ∃ ini x₀ last, pre = ini ++ [x₀] ∧ mn s x₀ = last ∧ Pit s x y last ∧
    W.cell? ⟨w.heap.size + 1, 0, none⟩ = some (.int .i64 ((fs (nlS s) last : Nat) + y - 1)) ∧ W.cell? ⟨w.heap.size + 1 + 1, 0, none⟩ = some (.bool true)
theorem ofX_own (s : ByteArray) (x y : Int) (w : World) (c : Code) : Own (OfX s x y w c) := fun pre A B row hs hg hr => by
  obtain ⟨hc, ini, x', last, e1, e0, e2, h3, h6⟩ := hs
  exact ⟨hc, ini, x', last, e1, e0, e2, cell_kept h3 hg hr, cell_kept h6 hg hr⟩
theorem two {W : World} {B : Nat} {x z o1 o3 : Value} (c1 : W.cell? ⟨B + 1, 0, none⟩ = some o1) (c3 : W.cell? ⟨B + 1 + 1, 0, none⟩ = some o3) :
    ((W.setCell ⟨B + 1, 0, none⟩ x).setCell ⟨B + 1 + 1, 0, none⟩ z).cell? ⟨B + 1, 0, none⟩ = some x ∧ ((W.setCell ⟨B + 1, 0, none⟩ x).setCell ⟨B + 1 + 1, 0, none⟩ z).cell? ⟨B + 1 + 1, 0, none⟩ = some z := by
  have a1 := World.cell?_setCell_same' W ⟨B + 1, 0, none⟩ x (by rw [c1]; rfl)
  have a3 : (W.setCell ⟨B + 1, 0, none⟩ x).cell? ⟨B + 1 + 1, 0, none⟩ = some o3 := (cell_other (by simp)).trans c3
  exact ⟨(cell_other (by simp)).trans a1, World.cell?_setCell_same' _ _ _ (by rw [a3]; rfl)⟩
theorem two_below {w W : World} (h : Below w.heap.size w W) (x z : Value) : Below w.heap.size w ((W.setCell ⟨w.heap.size + 1, 0, none⟩ x).setCell ⟨w.heap.size + 1 + 1, 0, none⟩ z) :=
  (h.setCell (p := ⟨w.heap.size + 1, 0, none⟩) (by simp) _).setCell (p := ⟨w.heap.size + 1 + 1, 0, none⟩) (by simp; omega) _
theorem two_keeps (W : World) (B : Nat) (x z : Value) : KeepsOthers W ((W.setCell ⟨B + 1, 0, none⟩ x).setCell ⟨B + 1 + 1, 0, none⟩ z) :=
  (KeepsOthers.setCell _ _ _).trans (KeepsOthers.setCell _ _ _)
theorem pit_in {s : ByteArray} {x y : Int} {e : Nat} (hs : s.size ≤ 4611686018427387904) (h : Pit s x y e) (he : e ≤ s.size) :
    ∃ k, SpotAt (nlS s) s.size x y k ∧ (fs (nlS s) e : Nat) + y - 1 = (k : Int) := by
  obtain ⟨h1, h2, h3⟩ := h
  have hf := fs_le (nl := nlS s) e
  obtain ⟨k, hk⟩ : ∃ k : Nat, (k : Int) = (fs (nlS s) e : Nat) + y - 1 := ⟨((fs (nlS s) e : Nat) + y - 1).toNat, by omega⟩
  obtain ⟨i1, i2⟩ := in_line (nl := nlS s) (e := e) (a := k) (by omega) (by omega)
  refine ⟨k, ⟨by omega, by omega, ?_⟩, by omega⟩
  unfold cl
  omega
theorem no_pit {s : ByteArray} {x y : Int} (h : ∀ e ∈ nls (nlS s) s.size ++ [s.size], ¬ Pit s x y (mn s e)) (k : Nat) : ¬ SpotAt (nlS s) s.size x y k := fun ⟨h0, h1, h2⟩ => by
  obtain ⟨e, he, h3, h4⟩ := has_line (nl := nlS s) (n := s.size) (a := k) h0
  obtain ⟨i1, i2⟩ := in_line h3 h4
  have := fs_le (nl := nlS s) k
  unfold cl at h2
  have hm := List.mem_append.2 (he.imp id (fun h => List.mem_singleton.2 h))
  exact h e hm (by rw [mn_eq (ends_le hm)]; exact ⟨by omega, by omega, by omega⟩)

set_option maxRecDepth 100000 in
set_option maxHeartbeats 4000000 in
theorem of_in (F : Fence) (n : Nat) (hF : F.fn 9) (hF1 : F.fn 13) (hF2 : F.fn 16) (hro : F.round = none) (hn : 3 ≤ n) (s : ByteArray) (hs : s.size ≤ 4611686018427387904) (u v : Int) (hu : R64 u) (hv : R64 v) (w : World) :
    CallsIn F n Tryd.prog 9 #[.string s, .agg #[.int .i64 u, .int .i64 v]] w fun e W' => ∃ r, e = .returned r ∧ OfR s u v r ∧ Below w.heap.size w W' := by
  have h1 : 1 ≤ n := by omega
  refine callsIn_of_wp_marks Tryd.func9 rfl hF ?_ hro
  simp only [Tryd.ntmps9, List.size_toArray, List.length_cons, List.length_nil, Nat.reduceAdd, Nat.reduceSub, Array.replicate_succ, Array.replicate_zero, List.push_toArray, List.append_toArray, List.nil_append, List.cons_append]
  gi_wp2_with (gi_at_call 13; refine (lines_in F (n - 1) hF1 hro _ _).mono ?_; rintro e w' ⟨rfl, rfl⟩)
  obtain ⟨W0, hW0⟩ : ∃ W0, ((((w.alloc (.cells #[.int .i64 u, .int .i64 v] 23)).alloc (.cells #[.int .i64 0] 3)).alloc (.cells #[.bool false] 4)).alloc (.cells #[.string s] 9)) = W0 := ⟨_, rfl⟩
  have g0 : W0.heap[w.heap.size]? = some (.cells #[.int .i64 u, .int .i64 v] 23 (0, 0)) := by rw [← hW0]; exact heap_old _ (heap_old _ (heap_old _ (heap_new _ _)))
  have g1 : W0.heap[w.heap.size + 1]? = some (.cells #[.int .i64 0] 3 (0, 0)) := by rw [← hW0]; exact heap_old _ (heap_old _ (by simpa using heap_new (w.alloc (.cells #[.int .i64 u, .int .i64 v] 23)) (.cells #[.int .i64 0] 3)))
  have g2 : W0.heap[w.heap.size + 1 + 1]? = some (.cells #[.bool false] 4 (0, 0)) := by rw [← hW0]; exact heap_old _ (by simpa using heap_new ((w.alloc (.cells #[.int .i64 u, .int .i64 v] 23)).alloc (.cells #[.int .i64 0] 3)) (.cells #[.bool false] 4))
  have g3 : W0.heap[w.heap.size + 1 + 1 + 1]? = some (.cells #[.string s] 9 (0, 0)) := by rw [← hW0]; simpa using heap_new (((w.alloc (.cells #[.int .i64 u, .int .i64 v] 23)).alloc (.cells #[.int .i64 0] 3)).alloc (.cells #[.bool false] 4)) (.cells #[.string s] 9)
  have hsz : W0.heap.size = w.heap.size + 4 := by rw [← hW0]; simp
  have hB0 : Below w.heap.size w W0 := by rw [← hW0]; exact ((((Below.refl _ _).alloc (Nat.le_refl _) _).alloc (by simp) _).alloc (by simp; omega) _).alloc (by simp; omega) _
  rw [hW0]
  clear hW0
  refine wpIn_rangeFunc_ownH hro h1 (gf := 16) (lb := #[.pointer (some ⟨w.heap.size + 1 + 1 + 1, 0, none⟩)]) rfl hF2 (enters_of Tryd.func16 (by kernel_rfl) rfl)
    (lines_stops F (n - 1) hF2 hro (by omega) (w.heap.size + 1 + 1 + 1) W0.heap.size s hs W0 (by omega) (Nat.le_refl _) (block_cell g3 rfl)) belowK_t (belowK_b (Nat.le_refl _)) (Below.refl _ _) (fun _ => rfl)
    (fun pre W => (∀ e ∈ pre, ¬ Pit s u v (mn s e)) ∧ Below W0.heap.size W0 W)
    (fun c pre W => OfX s u v w c pre W ∧ Below w.heap.size w W)
    (OwnFrom.and (ownFrom_pure _ _) (ownFrom_below (Nat.le_refl _) (Nat.le_refl _)))
    (fun c => OwnFrom.and (Own.from (ofX_own s u v w c) _) (ownFrom_below (Nat.le_refl _) (by omega)))
    ⟨by simp, Below.refl _ _⟩
    (fun x a' W => ∃ Bx m, mn s x = m ∧ LineBox s W0.heap.size Bx m W ∧ a' = { tmps := #[.string s, .agg #[.int .i64 u, .int .i64 v], undef, .pointer (some ⟨w.heap.size, 0, none⟩), .pointer (some ⟨w.heap.size + 1, 0, none⟩), .pointer (some ⟨w.heap.size + 1 + 1, 0, none⟩), .int .i64 (ln (nlS s) m : Nat), .pointer (some ⟨Bx, 0, none⟩), .string s,
      .func (.func 16) #[] #[.pointer (some ⟨w.heap.size + 1 + 1 + 1, 0, none⟩)], .int .i64 (ln (nlS s) m : Nat), .agg #[.int .i64 (fs (nlS s) m : Nat), .int .i64 (m : Nat)], undef, undef, undef, undef, undef, undef, undef, undef, undef, undef, undef, undef, undef, undef, undef, undef, undef, undef, undef, undef, undef, undef, undef, undef, undef, undef], defers := [] })
    (fun x a' _ X Y row hs hg hr => by obtain ⟨Bx, m, h1, h2, h3⟩ := hs; exact ⟨Bx, m, h1, lineBox_own s _ Bx m () X Y row h2 hg (fun r e => (hr r e).2), h3⟩) ?assign ?body ?done ?stop
  case assign =>
    rintro l pre x W K ⟨hi, hB⟩ hK
    unfold encL
    gi_wp2
    exact hK _ _ ((KeepsOthers.alloc _ _).from _) ((Below.refl _ W).alloc hB.size _) ⟨hi, hB.alloc hB.size _⟩ ⟨W.heap.size, _, rfl, ⟨hB.size, heap_new _ _⟩, rfl⟩
  case body =>
    rintro l pre x₀ a' W hl - ⟨hi, hB⟩ ⟨Bx, x, hx, hbx, rfl⟩ hlt
    have hxs : x ≤ s.size := by rw [← hx]; exact mn_le s x₀
    have HMN := Lib.hid hx
    clear hx
    obtain ⟨x0, x1⟩ := hbx.cells
    have c0 := block_cell (j := 0) (v := .int .i64 u) ((hB.block _ (Array.getElem?_eq_some_iff.1 g0).1).trans g0) rfl
    have c0' := block_cell (j := 1) (v := .int .i64 v) ((hB.block _ (Array.getElem?_eq_some_iff.1 g0).1).trans g0) rfl
    obtain ⟨q1, q2, q3, q4⟩ := boxes hB g1 g2
    have c1 := q1 0 _ rfl
    have c2 := q2 0 _ rfl
    have f1 := q3 0
    have f2 := q4 0
    clear q1 q2 q3 q4
    have b1 := ln_le (nl := nlS s) x
    have b2 := fs_le (nl := nlS s) x
    have HX := Lib.hid hbx
    have HSZ := Lib.hid hsz
    clear hbx hsz
    have no : ¬ Pit s u v x → KeepsFrom W0.heap.size W W ∧ Below W0.heap.size W W ∧ (∀ e ∈ pre ++ [x₀], ¬ Pit s u v (mn s e)) ∧ Below W0.heap.size W0 W := fun h =>
      ⟨KeepsFrom.refl _ _, Below.refl _ _, fun e he => (List.mem_append.1 he).elim (hi e) (fun he => by obtain rfl := List.mem_singleton.1 he; rw [HMN.out]; exact h), hB⟩
    by_cases h0 : ((ln (nlS s) x : Nat) : Int) = u
    · have t0 : (((ln (nlS s) x : Nat) : Int) == u) = true := by rw [h0]; simp
      have H0 := Lib.hid h0
      clear h0
      by_cases h1 : 1 ≤ v
      · by_cases h2 : v ≤ (x : Int) - (fs (nlS s) x : Nat) + 1
        · gi_wp2
          obtain ⟨d1, d3⟩ := two (x := .int .i64 ((fs (nlS s) x : Nat) + v - 1)) (z := .bool true) c1 c2
          exact ⟨(two_keeps _ _ _ _).from _, ⟨rfl, pre, x₀, x, rfl, HMN.out, ⟨H0.out, h1, h2⟩, d1, d3⟩, two_below (hB0.trans (hB.mono hB0.size)) _ _⟩
        · gi_wp2
          exact no (fun h => absurd h.2.2 (by omega))
      · gi_wp2
        exact no (fun h => absurd h.2.1 (by omega))
    · have t0 : (((ln (nlS s) x : Nat) : Int) == u) = false := by simpa using h0
      have H0 := Lib.hid h0
      clear h0
      gi_wp2
      exact no (fun h => H0.out h.1)
  case done =>
    rintro D ys W hD rfl ⟨hi, hB⟩ hK
    obtain ⟨q1, q2, q3, q4⟩ := boxes hB g1 g2
    have c1 := q1 0 _ rfl
    have c2 := q2 0 _ rfl
    have f1 := q3 0
    have f2 := q4 0
    clear q1 q2 q3 q4
    have HSZ := Lib.hid hsz
    have HHI := Lib.hid hi
    clear hsz hi
    gi_wp2
    obtain ⟨d1, d3⟩ := two (x := .int .i64 0) (z := .bool false) c1 c2
    have hK' := (two_keeps W w.heap.size (.int .i64 0) (.bool false)).same D _ hK rfl
    refine ⟨by simp, .inl ⟨_, _, rfl, run_takeDeferred hK', ?_⟩⟩
    have e1 := cell_kept d1 (grownBy_putObj' _ D (.deferred none)) (fun r e => by cases e; exact ⟨_, hK', rfl⟩)
    have e3 := cell_kept d3 (grownBy_putObj' _ D (.deferred none)) (fun r e => by cases e; exact ⟨_, hK', rfl⟩)
    refine ⟨.tuple #[.int .i64 0, .bool false], ?_, _, rfl, .inr ⟨no_pit HHI.out, rfl⟩, (two_below (hB0.trans (hB.mono hB0.size)) _ _).trans (belowK_b (w := w) (Nat.le_refl _) _ D _ _ (by have := HSZ.out; omega) hK' rfl rfl)⟩
    simp [results, Tryd.f9, go_sem, e1, e3]
  case stop =>
    rintro D c pre W hD ⟨m, e, rfl, he⟩ ⟨⟨rfl, ini, x₀, last, e1, e0, e2, h3, h6⟩, hB⟩ hK
    obtain ⟨rfl, e5⟩ := List.append_inj' e1 rfl
    obtain rfl : e = x₀ := by simpa using e5
    obtain rfl : e = last := by rw [← e0]; exact (mn_eq (he.elim (fun h => Nat.le_of_lt (mem_nls.1 h).1) (fun h => by omega))).symm
    obtain ⟨k, hk, w4⟩ := pit_in hs e2 (he.elim (fun h => Nat.le_of_lt (mem_nls.1 h).1) (fun h => by omega))
    rw [w4] at h3
    have HE := Lib.hid hk
    clear e1 e5 w4 he e2 hk e0
    have HSZ := Lib.hid hsz
    clear hsz
    gi_wp2
    refine ⟨by simp, .inl ⟨_, _, rfl, run_takeDeferred hK, ?_⟩⟩
    have k1 := cell_kept h3 (grownBy_putObj' _ D (.deferred none)) (fun r e => by cases e; exact ⟨_, hK, rfl⟩)
    have k3 := cell_kept h6 (grownBy_putObj' _ D (.deferred none)) (fun r e => by cases e; exact ⟨_, hK, rfl⟩)
    refine ⟨.tuple #[.int .i64 (k : Nat), .bool true], ?_, _, rfl, .inl ⟨k, HE.out, rfl⟩, hB.trans (belowK_b (w := w) (Nat.le_refl _) _ D _ _ (by have := HSZ.out; omega) hK rfl rfl)⟩
    simp [results, Tryd.f9, go_sem, k1, k3]
theorem of_any (s : ByteArray) (hs : s.size ≤ 4611686018427387904) (u v : Int) (hu : R64 u) (hv : R64 v) (w : World) :
    Calls Tryd.prog 9 #[.string s, .agg #[.int .i64 u, .int .i64 v]] w fun e W' => ∃ r, e = .returned r ∧ OfR s u v r ∧ Below w.heap.size w W' :=
  callsIn_wide.1 (of_in Fence.wide 3 trivial trivial trivial rfl (by omega) s hs u v hu hv w)
end Go.Proofs.YtnpmipmdffbpdaaDoor
