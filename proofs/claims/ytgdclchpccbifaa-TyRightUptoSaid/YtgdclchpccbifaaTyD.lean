/-
  THE REFERENCE's CopyTy; rows that grow in a struct's field.
-/
import Derived.Test.YtgdclchpccbifaaTyC
namespace Go.Proofs.Ytgdclchpccbifaa
open Go.ChangeShapes Go.WideShapes Go.ChangeAt Go.RowKit
set_option linter.unusedVariables false
/-- A struct in block bx whose slice grows; the blocks below base, but bx, are as in W1. -/
structure Grow (W1 : World) (base bx : Nat) (kk n : Int) (s : ByteArray) (us : List Tt) (sv : Value) (wr : World) : Prop where
  box : wr.heap[bx]? = some (.cells #[.int .i64 kk, .int .i64 n, .string s, sv] 25 (0, 0))
  own : Own TyR 4 wr base 25 sv us
  lt : bx < base
  size : base ≤ wr.heap.size
  wide : W1.heap.size ≤ wr.heap.size
  os : wr.os = W1.os
  tape : wr.tape = W1.tape
  output : wr.output = W1.output
  block : ∀ k, k < base → k ≠ bx → wr.heap[k]? = W1.heap[k]?
section
variable {W1 : World} {base bx : Nat} {kk n : Int} {s : ByteArray} {us : List Tt} {sv v' : Value} {wr w1 w2 : World} {rows : List (List Value)}
theorem Grow.cell {w' : World} (h : Grow W1 base bx kk n s us sv wr) (hb : Below wr.heap.size wr w') : w'.cell? ⟨bx, 3, none⟩ = some sv := by
  have h1 := h.size
  have h2 := h.lt
  rw [cell_of_row w' bx 3 _ _ _ ((hb.block _ (by omega)).trans h.box)]; rfl
theorem Grow.below {B : Nat} (h : Grow W1 base bx kk n s us sv wr) (hB : B ≤ bx) {w : World} (hw : Below B w W1) : Below B w wr :=
  ⟨h.os.trans hw.os, h.tape.trans hw.tape, h.output.trans hw.output, Nat.le_trans hw.size h.wide, fun k hk => (h.block k (by have := h.lt; omega) (by omega)).trans (hw.block k hk)⟩
theorem grow_cell (h : Grow W1 base bx kk n s us sv wr) (hb : Below wr.heap.size wr w1) (ho : OwnRows TyR 4 w1 base 25 sv us rows) (hg : w1.grownBy w2 sv.ownBlock) :
    w2.cell? ⟨bx, 3, none⟩ = some sv ∧ w2.frozen? ⟨bx, 3, none⟩ = false := by
  have hz := h.size
  have hl := h.lt
  have hb1 : w2.heap[bx]? = some (.cells #[.int .i64 kk, .int .i64 n, .string s, sv] 25 (0, 0)) := by
    rw [hg.block _ (by have := hb.size; omega) (fun e => by have := (ho.2.2.1.lt _ e.symm).1; omega), hb.block _ (by omega)]; exact h.box
  exact ⟨by rw [cell_of_row w2 _ 3 _ _ _ hb1]; rfl, frozen_of_row w2 _ 3 _ _ hb1⟩
theorem grow_next {u : Tt} {A : Option Addr} {c : Nat} (h : Grow W1 base bx kk n s us sv wr)
    (hb : Below wr.heap.size wr (w1.alloc (.cells #[.int .i64 u.kind, .int .i64 u.num, .string u.name, .slice A u.args.length c] 25))) (ho : OwnRows TyR 4 (w1.alloc (.cells #[.int .i64 u.kind, .int .i64 u.num, .string u.name, .slice A u.args.length c] 25)) base 25 sv us rows)
    (hown : w2.ownsRow base 25 4 v' (us.length + 1) (rows.flatten ++ [.int .i64 u.kind, .int .i64 u.num, .string u.name, .slice A u.args.length c])) (hg : (w1.alloc (.cells #[.int .i64 u.kind, .int .i64 u.num, .string u.name, .slice A u.args.length c] 25)).grownBy w2 sv.ownBlock)
    (hv : v'.ownBlock = sv.ownBlock ∨ v'.ownBlock = some (w1.alloc (.cells #[.int .i64 u.kind, .int .i64 u.num, .string u.name, .slice A u.args.length c] 25)).heap.size)
    (hd : TyR.rd w1 (New wr.drew.heap.size w1) u [.int .i64 u.kind, .int .i64 u.num, .string u.name, .slice A u.args.length c]) (hb1 : Below wr.drew.heap.size wr.drew w1) :
    Grow W1 base bx kk n s (us ++ [u]) v' (w2.setCell ⟨bx, 3, none⟩ v') := by
  have hz := h.size
  have hl := h.lt
  have hz1 : wr.heap.size ≤ w1.heap.size := hb1.size
  have hne : ∀ k, k < base → sv.ownBlock ≠ some k := fun k hk e => by have := (ho.2.2.1.lt _ e).1; omega
  have hlt : ∀ k, sv.ownBlock = some k → k < wr.heap.size := fun k e => by
    obtain ⟨r, hr⟩ := h.own
    exact (hr.2.2.1.lt _ e).2
  generalize hw : w1.alloc (.cells #[.int .i64 u.kind, .int .i64 u.num, .string u.name, .slice A u.args.length c] 25) = wa at *
  have hwz : wa.heap.size = w1.heap.size + 1 := by rw [← hw]; simp
  have hown2 : Own TyR 4 w2 base 25 v' (us ++ [u]) := by
    refine ho.snoc rfl ?_ hown hg hv
    have hk : Same (New wr.drew.heap.size w1) w1 wa := by rw [← hw]; exact Same.of_below (below_new _ _) fun b hb => hb.2
    refine TyR.more (fun b hb => ⟨?_, ?_, fun e => ?_⟩) (TyR.keep hk hd)
    · have : wr.heap.size ≤ b := hb.1; omega
    · have := hb.2; omega
    · have h1 : wr.heap.size ≤ b := hb.1
      have := hlt _ e; omega
  have hb2 : ∀ k, k < base → w2.heap[k]? = wr.heap[k]? := fun k hk => by rw [hg.block _ (by omega) (fun e => hne k hk e.symm), hb.block _ (by omega)]
  have hbx := (hb2 bx hl).trans h.box
  have hsz : (w2.setCell ⟨bx, 3, none⟩ v').heap.size = w2.heap.size := by simp
  have hgz := hg.size
  refine ⟨?_, hown2.keep (fun k hk _ => heap_setCell_other w2 _ _ _ (by simp; omega)) (by omega), hl, by omega, by have := h.wide; omega, hg.os.trans (hb.os.trans h.os), hg.tape.trans (hb.tape.trans h.tape), hg.output.trans (hb.output.trans h.output), fun k hk hne => ?_⟩
  · rw [heap_setCell_same w2 _ 3 _ _ _ hbx]; rfl
  · rw [heap_setCell_other w2 _ _ _ (by simp; omega), hb2 k hk, h.block k hk hne]
end
theorem heap_alloc3_new (w : World) (A B C : Obj) : (((w.alloc A).alloc B).alloc C).heap[w.heap.size + 2]? = some C := by
  have := heap_alloc_new ((w.alloc A).alloc B) C
  simpa using this
theorem heap_alloc3_mid (w : World) (A B C : Obj) : (((w.alloc A).alloc B).alloc C).heap[w.heap.size + 1]? = some B := by
  rw [heap_alloc_old _ _ (by simp), heap_alloc2_new]
theorem heap_alloc3_old (w : World) (A B C : Obj) : (((w.alloc A).alloc B).alloc C).heap[w.heap.size]? = some A := by
  rw [heap_alloc_old _ _ (by simp; omega), heap_alloc2_old]
/-- The world in which a copy of a struct begins to grow. -/
def W3 (w : World) (k n : Int) (s : ByteArray) (A : Option Addr) (m c : Nat) (k' n' : Int) (s' : ByteArray) : World :=
  ((w.alloc (.cells #[.int .i64 k, .int .i64 n, .string s, .slice A m c] 25)).alloc (.cells #[.int .i64 0, .int .i64 0, .string ⟨#[]⟩, .slice none 0 0] 25)).alloc (.cells #[.int .i64 k', .int .i64 n', .string s', .slice none 0 0] 25)
theorem W3.below (w : World) (k n : Int) (s : ByteArray) (A : Option Addr) (m c : Nat) (k' n' : Int) (s' : ByteArray) : Below w.heap.size w (W3 w k n s A m c k' n' s') := ((below_new w _).alloc (by simp) _).alloc (by simp; omega) _
theorem W3.start (w : World) (k n : Int) (s : ByteArray) (A : Option Addr) (m c : Nat) (k' n' : Int) (s' : ByteArray) : Grow (W3 w k n s A m c k' n' s') (w.heap.size + 3) (w.heap.size + 2) k' n' s' [] (.slice none 0 0) (W3 w k n s A m c k' n' s') :=
  ⟨heap_alloc3_new _ _ _ _, Own.nil _ _ _ _ _, by omega, by unfold W3; simp, Nat.le_refl _, rfl, rfl, rfl, fun _ _ _ => rfl⟩
section
variable {w wr : World} {k n k' n' : Int} {s s' : ByteArray} {A A' : Option Addr} {m c c' : Nat} {us : List Tt} {sv : Value}
theorem W3.old (h : Grow (W3 w k n s A m c k' n' s') (w.heap.size + 3) (w.heap.size + 2) k' n' s' us sv wr) : wr.heap[w.heap.size]? = some (.cells #[.int .i64 k, .int .i64 n, .string s, .slice A m c] 25 (0, 0)) :=
  (h.block _ (by omega) (by omega)).trans (heap_alloc3_old _ _ _ _)
theorem W3.res (h : Grow (W3 w k n s A m c k' n' s') (w.heap.size + 3) (w.heap.size + 2) k' n' s' us sv wr) : wr.heap[w.heap.size + 1]? = some (.cells #[.int .i64 0, .int .i64 0, .string ⟨#[]⟩, .slice none 0 0] 25 (0, 0)) :=
  (h.block _ (by omega) (by omega)).trans (heap_alloc3_mid _ _ _ _)
theorem W3.arg (h : Grow (W3 w k n s A m c k' n' s') (w.heap.size + 3) (w.heap.size + 2) k' n' s' us sv wr) {w' : World} (hb : Below wr.heap.size wr w') : w'.cell? ⟨w.heap.size, 3, none⟩ = some (.slice A m c) := by
  have hz := h.size
  rw [cell_of_row w' w.heap.size 3 _ _ _ ((hb.block _ (by omega)).trans (W3.old h))]; rfl
theorem W3.made (h : Grow (W3 w k n s A m c k' n' s') (w.heap.size + 3) (w.heap.size + 2) k' n' s' us (.slice A' us.length c') wr) (hn : -9223372036854775808 ≤ n' ∧ n' ≤ 9223372036854775807) (hl : us.length ≤ 1048576) (hs : s'.size ≤ 1048576) (r : Array Value) :
    TyR.rd (wr.setRow (w.heap.size + 1) r) (New w.heap.size (wr.setRow (w.heap.size + 1) r)) (.mk k' n' s' us) [.int .i64 k', .int .i64 n', .string s', .slice A' us.length c'] ∧ Below w.heap.size w (wr.setRow (w.heap.size + 1) r) :=
  ⟨copy_end (TyR.more (S := New (w.heap.size + 3) wr) (fun b hb => ⟨by have := hb.1; omega, hb.2⟩) (TyR.mk hn hl hs h.own.rows)), copy_below (h.below (by omega) (W3.below _ _ _ _ _ _ _ _ _ _)) (Below.refl _ _)⟩
end
set_option maxHeartbeats 1000000 in
theorem copyTy_any : ∀ (d : Nat) (k n : Int) (s : ByteArray) (l : List Tt) (A : Option Addr) (c : Nat) (w : World) (S : Nat → Prop), (∀ b, S b → b < w.heap.size) → TyRd w S d (.mk k n s l) [.int .i64 k, .int .i64 n, .string s, .slice A l.length c] →
      Calls Try.prog 48 #[.agg #[.int .i64 k, .int .i64 n, .string s, .slice A l.length c]] w (Made w w.heap.size (.mk k n s l)) := by
  intro d
  induction d with
  | zero => intro k n s l A c w S _ h; exact h.elim
  | succ d ih =>
    intro k n s l A c w S hS h
    obtain ⟨A', c', hcs, hn, hl, hs, hk⟩ := h
    simp only [List.cons.injEq, Value.slice.injEq, and_true, true_and] at hcs
    obtain ⟨rfl, rfl⟩ := hcs
    have HK := Lib.hid hk
    have HS := Lib.hid hS
    have HIH := Lib.hid ih
    clear hk hS ih
    go_enter Try.func48, Try.ntmps48
    go_wp2
    go_loopw [4] (fun z wr => ∃ (j : Nat) (sv : Value), j ≤ l.length ∧ z = .int .i64 j ∧ Grow (W3 w k n s A l.length c k n s) (w.heap.size + 3) (w.heap.size + 2) k n s (l.take j) sv wr) (fun z _ => l.length - (intOf z).toNat)
    case atStart => exact ⟨0, .slice none 0 0, Nat.zero_le _, rfl, W3.start _ _ _ _ _ _ _ _ _ _⟩
    case round =>
      obtain ⟨j, sv, hj, rfl, hat⟩ := hrel
      have HAT := Lib.hid hat
      have hz := hat.size
      clear hat
      have q0 := W3.arg HAT.out (Below.refl _ _)
      by_cases hlt : j < l.length
      · obtain ⟨b, o, cs, rfl, hSb, hr, hd⟩ := HK.out j _ (List.getElem?_eq_getElem hlt)
        have HT : Hid (l.take (j + 1) = l.take j ++ [l[j]]) := Lib.hid (List.take_succ_eq_append_getElem hlt)
        generalize l[j] = x at *
        obtain ⟨k2, n2, s2, l2⟩ := x
        cases d with
        | zero => exact hd.elim
        | succ d =>
        have hd0 := hd
        obtain ⟨A2, c2, rfl, _⟩ := hd
        have hwr := HAT.out.below (by omega) (W3.below w k n s (some ⟨b, o, none⟩) l.length c k n s)
        have HR : Hid (∀ W', Below wr.heap.size wr W' → W'.rangeAt b (o + j * 4) [.int .i64 k2, .int .i64 n2, .string s2, .slice A2 l2.length c2]) := Lib.hid fun W' hW => range_same hr (Same.of_below (hwr.trans (hW.mono (by omega))) HS.out) hSb
        have HC : Hid (∀ W', Below wr.heap.size wr W' → W'.cell? ⟨w.heap.size + 2, 3, none⟩ = some sv) := Lib.hid fun W' hW => HAT.out.cell hW
        have HC2 : Hid (∀ W', Below wr.heap.size wr W' → W'.cell? ⟨w.heap.size, 3, none⟩ = some (.slice (some ⟨b, o, none⟩) l.length c)) := Lib.hid fun W' hW => W3.arg HAT.out hW
        have HD : Hid (∀ W', Below wr.heap.size wr W' → Calls Try.prog 48 #[.agg #[.int .i64 k2, .int .i64 n2, .string s2, .slice A2 l2.length c2]] W' (Made W' W'.heap.size (.mk k2 n2 s2 l2))) := Lib.hid fun W' hW => by
          have h1 : Below w.heap.size w W' := hwr.trans (hW.mono (by omega))
          have h2 := h1.size
          exact HIH.out k2 n2 s2 l2 A2 c2 W' S (fun b hb => by have := HS.out b hb; omega) (hd0.keep (Same.of_below h1 HS.out))
        have HU : Hid ((l.take j).length = j) := Lib.hid (by rw [List.length_take]; omega)
        clear hr hd0 hwr
        go_wp2
        refine wp_region_K (fun w' => Below wr.heap.size wr w') (fun j => j != 9 && j != 11) (by kernel_rfl) ?_
        refine wpK_take0 (v := ?_) (a' := ?_) 0 rfl (by kernel_rfl) (by kernel_rfl) (by kernel_rfl) (by kernel_rfl) (fun _ _ _ h => h) ?_ ?_ ?_
        rotate_left 2
        · refine .inl ⟨by kernel_rfl, ?_⟩; intro wS hS; clear hS; go_simp; with_reducible rfl
        · go_simp; with_reducible rfl
        refine wpK_take (v := ?_) (a' := ?_) 1 rfl (by kernel_rfl) (by kernel_rfl) (by kernel_rfl) (by kernel_rfl) (by kernel_rfl) (fun _ _ _ h => h) (below_drew1 (Below.refl _ _)) ?_ ?_ ?_
        rotate_left 2
        · refine .inl ⟨by kernel_rfl, ?_⟩; intro wS hS; have q1 := HC.out _ hS; have q2 := HC2.out _ hS; go_simp; with_reducible rfl
        · go_simp; with_reducible rfl
        refine wpK_take0 (v := ?_) (a' := ?_) 2 rfl (by kernel_rfl) (by kernel_rfl) (by kernel_rfl) (by kernel_rfl) (fun _ _ _ h => h) ?_ ?_ ?_
        rotate_left 2
        · refine .inl ⟨by kernel_rfl, ?_⟩; intro wS hS; clear hS; go_simp; with_reducible rfl
        · go_simp; with_reducible rfl
        refine wpK_take (v := ?_) (a' := ?_) 3 rfl (by kernel_rfl) (by kernel_rfl) (by kernel_rfl) (by kernel_rfl) (by kernel_rfl) (fun _ _ _ h => h) (below_drew1 (Below.refl _ _)) ?_ ?_ ?_
        rotate_left 2
        · refine .inl ⟨by kernel_rfl, ?_⟩; intro wS hS; have q1 := HC.out _ hS; have q2 := HC2.out _ hS; go_simp; with_reducible rfl
        · go_simp; with_reducible rfl
        refine wpK_take0 (v := ?_) (a' := ?_) 4 rfl (by kernel_rfl) (by kernel_rfl) (by kernel_rfl) (by kernel_rfl) (fun _ _ _ h => h) ?_ ?_ ?_
        rotate_left 2
        · refine .inl ⟨by kernel_rfl, ?_⟩; intro wS hS; clear hS; go_simp; with_reducible rfl
        · go_simp; with_reducible rfl
        refine wpK_take0 (v := ?_) (a' := ?_) 5 rfl (by kernel_rfl) (by kernel_rfl) (by kernel_rfl) (by kernel_rfl) (fun _ _ _ h => h) ?_ ?_ ?_
        rotate_left 2
        · refine .inl ⟨by kernel_rfl, ?_⟩; intro wS hS; clear hS; go_simp; with_reducible rfl
        · go_simp; with_reducible rfl
        refine wpK_take (v := (.agg #[.int .i64 k2, .int .i64 n2, .string s2, .slice A2 l2.length c2])) (a' := ?_) 6 rfl (by kernel_rfl) (by kernel_rfl) (by kernel_rfl) (by kernel_rfl) (by kernel_rfl) (fun _ _ _ h => h) (below_drew1 (Below.refl _ _)) ?_ ?_ ?_
        rotate_left 1
        · exact yieldsIf_load_mid (by kernel_rfl) 25 (.tmp 24) rfl b (o + j * 4) (by go_simp) _ _ (fun wS hS => HR.out _ hS) Try.underlying25 rfl (tySize _ _ _ _)
        · go_simp; with_reducible rfl
        refine wpK_one 7 rfl (by kernel_rfl) (fun K hK => ?_)
        have HKK := Lib.hid hK
        clear hK
        go_wp2_with fail
        refine (HD.out _ (below_drew1 (Below.refl _ _))).mono ?_
        rintro e w1 ⟨A3, c3, rfl, h3, hb1⟩
        have HM := Lib.hid (And.intro h3 hb1)
        have hz1 : wr.heap.size ≤ w1.heap.size := hb1.size
        clear h3 hb1
        go_wp2
        refine HKK.out _ _ (fun _ hS => hS.trans (HM.out.2.mono (by simp))) ?_
        refine wpK_one 8 rfl (by kernel_rfl) (fun K hK => ?_)
        have HKK := Lib.hid hK
        clear hK
        go_wp2
        refine HKK.out _ _ (fun _ hS => hS.trans ((below_new _ _).mono hS.size)) ?_
        refine wpK_one 9 rfl (by kernel_rfl) (fun K hK => ?_)
        have HKK := Lib.hid hK
        clear hK
        have hbw : Below wr.heap.size wr (w1.alloc (.cells #[.int .i64 ((Tt.mk k2 n2 s2 l2)).kind, .int .i64 ((Tt.mk k2 n2 s2 l2)).num, .string ((Tt.mk k2 n2 s2 l2)).name, .slice A3 ((Tt.mk k2 n2 s2 l2)).args.length c3] 25)) :=
          (below_drew1 (Below.refl wr.heap.size wr)).trans ((HM.out.2.mono (by simp)).trans ((below_new _ _).mono hz1))
        obtain ⟨rows, hrows⟩ := HAT.out.own.below hbw
        have HRO := Lib.hid hrows
        have HBW := Lib.hid hbw
        obtain ⟨i0, hi, hi0, hi1, hi2⟩ := info_parts tyInfo
        have HI := Lib.hid (And.intro hi (And.intro hi0 (And.intro hi1 hi2)))
        clear hi hi0 hi1 hi2 hrows hbw
        have hus := HU.out
        refine wpList_append_own_at _ rfl (.tmp 20) (.tmp 27) 23 rfl (w.heap.size + 3) 25 i0 (.agg #[.int .i64 0, .int .i64 0, .string ⟨#[]⟩, .slice none 0 0]) 4 56 Try.underlying23 HI.out.1 HI.out.2.1 HI.out.2.2.1 HI.out.2.2.2 rfl (by decide)
          sv (l.take j).length rows.flatten rfl HRO.out.2.2.1 ⟨w1.heap.size, 0, none⟩ 1 1 [.int .i64 ((Tt.mk k2 n2 s2 l2)).kind, .int .i64 ((Tt.mk k2 n2 s2 l2)).num, .string ((Tt.mk k2 n2 s2 l2)).name, .slice A3 ((Tt.mk k2 n2 s2 l2)).args.length c3] rfl rfl ?c1 ?c2 ?c3 ?c4 ?c5 ?_
        case c1 => exact new_cells _ _ _
        case c2 => simp [Value.oneCell']
        case c3 => rw [hus]; unfold maxLen; omega
        case c4 => rw [hus]; omega
        case c5 => simp; omega
        intro v' w2 hown2 hgrow _ hv'
        obtain ⟨A4, n4, c4, rfl⟩ := own_slice hown2
        have HO := Lib.hid (And.intro hown2 (And.intro hgrow hv'))
        clear hown2 hgrow hv' hus
        refine wpList_nil ?_
        refine HKK.out _ _ (fun h => absurd h (by decide)) ?_
        refine wpK_one 10 rfl (by kernel_rfl) (fun K hK => ?_)
        have HKK := Lib.hid hK
        clear hK
        go_wp2
        refine HKK.out _ _ (fun _ hS => hS) ?_
        refine wpK_one 11 rfl (by kernel_rfl) (fun K hK => ?_)
        have HKK := Lib.hid hK
        clear hK
        obtain ⟨e1, e2⟩ := grow_cell HAT.out HBW.out HRO.out HO.out.2.1
        go_wp2
        refine HKK.out _ _ (fun h => absurd h (by decide)) ?_
        refine wpK_end (by kernel_rfl) ?_ _
        have HN := Lib.hid (grow_next HAT.out HBW.out HRO.out HO.out.1 HO.out.2.1 HO.out.2.2 HM.out.1 HM.out.2)
        clear HKK HO HRO HI HBW HD HC HC2 HM e1 e2
        go_wp2
        go_roundw
        case rel => exact ⟨j + 1, _, by omega, by go_num, by rw [HT.out]; exact HN.out⟩
        case measure => simp [intOf]; omega
      · obtain rfl : j = l.length := by omega
        rw [List.take_length] at HAT
        obtain ⟨A5, c5, hsv, _, _⟩ := HAT.out.own.form
        subst hsv
        go_wp2_with (first | (refine wpList_load_row rfl 25 _ rfl (w.heap.size + 2) rfl 25 #[.int .i64 k, .int .i64 n, .string s, .slice A5 l.length c5] (0, 0) _ HAT.out.box Try.underlying25 rfl (tySizeA _ _ _ _) ?_) | (refine wpList_store_row rfl 25 _ _ rfl (w.heap.size + 1) _ rfl rfl 25 #[.int .i64 0, .int .i64 0, .string ⟨#[]⟩, .slice none 0 0] (W3.res HAT.out) (tySizeA _ _ _ _) rfl (one4 _ _ _ _ _ _) ?_))
        refine bodyPost_ret (v := .agg #[.int .i64 k, .int .i64 n, .string s, .slice A5 l.length c5]) (results_cell_row rfl _ _ (w.heap.size + 1) 25 _ (0, 0) _ rfl (setRow_row (W3.res HAT.out)) Try.underlying25 rfl (tySizeA _ _ _ _)) rfl ?_
        obtain ⟨f1, f2⟩ := W3.made HAT.out hn hl hs #[.int .i64 k, .int .i64 n, .string s, .slice A5 l.length c5]
        exact ⟨A5, c5, rfl, f1, f2⟩
end Go.Proofs.Ytgdclchpccbifaa
