/-
  ty.copied.
-/
import Derived.Test.YtgdclchpccbifaaTyA
import Derived.Laws.Rows
import Derived.Laws.Tables
import Derived.Laws.NewBlocks
import Derived.Deep.WholeRow
namespace Go.Proofs.Ytgdclchpccbifaa
open Go.ChangeShapes Go.WideShapes Go.ChangeAt Go.RowKit
set_option linter.unusedVariables false
theorem below_drew1 {B : Nat} {a w : World} (h : Below B a w) : Below B a w.drew := ⟨h.os, h.tape, h.output, h.size, h.block⟩
theorem tyInfo : (Try.prog.info? 25).map (fun i => (i.zero, i.size, i.bytes)) = some (some (.agg #[.int .i64 0, .int .i64 0, .string ⟨#[]⟩, .slice none 0 0]), 4, 56) := by kernel_rfl
theorem tySize (x y z u : Value) : (Try.prog.info? 25).map (·.size) = some [x, y, z, u].length := by kernel_rfl
theorem tySizeA (x y z u : Value) : (Try.prog.info? 25).map (·.size) = some (#[x, y, z, u] : Array Value).size := by kernel_rfl
theorem one4 (x y : Int) (s : ByteArray) (A : Option Addr) (n c : Nat) : (#[Value.int .i64 x, .int .i64 y, .string s, .slice A n c] : Array Value).all (·.oneCell') = true := by simp [Value.oneCell']
/-- What comes back: a type, all in new memory. -/
def Made (w : World) (B : Nat) (u : Tt) (e : Ending) (w' : World) : Prop :=
  ∃ A c, e = .returned (.agg #[.int .i64 u.kind, .int .i64 u.num, .string u.name, .slice A u.args.length c]) ∧ TyR.rd w' (New B w') u [.int .i64 u.kind, .int .i64 u.num, .string u.name, .slice A u.args.length c] ∧ Below w.heap.size w w'
/-- A function that makes of each variable something. -/
def Gives (w0 : World) (f : Nat) (cap : Array Value) (g : Tt → Tt) : Prop :=
  (∀ (args : Array Value) (w : World), (callFunc f args).run Try.prog w = .ok (.enter f args) w) ∧
  ∀ (w : World) (t : Tt) (A : Option Addr) (c B : Nat), Below w0.heap.size w0 w → w0.heap.size ≤ B → B ≤ w.heap.size → t.kind = 1 → TyR.rd w (New B w) t [.int .i64 t.kind, .int .i64 t.num, .string t.name, .slice A t.args.length c] →
    Calls Try.prog f (#[.agg #[.int .i64 t.kind, .int .i64 t.num, .string t.name, .slice A t.args.length c]] ++ cap) w (Made w B (g t))
/-- At the head of a round of copied. -/
structure CopyAt (W : World) (kk n : Int) (s : ByteArray) (us : List Tt) (sv : Value) (wr : World) : Prop where
  box : wr.heap[W.heap.size]? = some (.cells #[.int .i64 kk, .int .i64 n, .string s, sv] 25 (0, 0))
  res : wr.heap[W.heap.size + 1]? = some (.cells #[.int .i64 0, .int .i64 0, .string ⟨#[]⟩, .slice none 0 0] 25 (0, 0))
  own : Own TyR 4 wr (W.heap.size + 2) 25 sv us
  below : Below W.heap.size W wr
theorem CopyAt.size {W : World} {kk n : Int} {s : ByteArray} {us : List Tt} {sv : Value} {wr : World} (h : CopyAt W kk n s us sv wr) : W.heap.size + 2 ≤ wr.heap.size := by
  have := (Array.getElem?_eq_some_iff.1 h.res).1; omega
theorem CopyAt.cell {W : World} {kk n : Int} {s : ByteArray} {us : List Tt} {sv : Value} {wr w' : World} (h : CopyAt W kk n s us sv wr) (hb : Below wr.heap.size wr w') : w'.cell? ⟨W.heap.size, 3, none⟩ = some sv := by
  have h1 := h.size
  rw [cell_of_row w' W.heap.size 3 _ _ _ ((hb.block _ (by omega)).trans h.box)]; rfl
theorem own_slice {w : World} {base sz : Nat} {e : TypeId} {v : Value} {n : Nat} {cs : List Value} (h : w.ownsRow base e sz v n cs) : ∃ A m c, v = .slice A m c := by
  rcases h.2 with ⟨hv, h0⟩ | ⟨g, cap, cur, hv, _⟩
  · exact ⟨_, _, _, hv⟩
  · exact ⟨_, _, _, hv⟩
theorem new_cells (w : World) (cs : List Value) (t : TypeId) : ∀ j u, cs[j]? = some u → (w.alloc (.cells cs.toArray t)).cell? ((⟨w.heap.size, 0, none⟩ : Addr).add j) = some u := fun j u hu => by
  rw [Addr.add_mid, Nat.zero_add, cell_of_row _ _ j cs.toArray t (0, 0) (heap_alloc_new w _)]
  simpa using hu
theorem copy_cell {W : World} {kk n : Int} {s : ByteArray} {us : List Tt} {sv : Value} {wr w1 w2 : World} {rows : List (List Value)} (h : CopyAt W kk n s us sv wr) (hb : Below wr.heap.size wr w1) (ho : OwnRows TyR 4 w1 (W.heap.size + 2) 25 sv us rows) (hg : w1.grownBy w2 sv.ownBlock) :
    w2.cell? ⟨W.heap.size, 3, none⟩ = some sv ∧ w2.frozen? ⟨W.heap.size, 3, none⟩ = false := by
  have hz := h.size
  have hb1 : w2.heap[W.heap.size]? = some (.cells #[.int .i64 kk, .int .i64 n, .string s, sv] 25 (0, 0)) := by
    rw [hg.block _ (by have := hb.size; omega) (fun e => by have := (ho.2.2.1.lt _ e.symm).1; omega), hb.block _ (by omega)]; exact h.box
  exact ⟨by rw [cell_of_row w2 _ 3 _ _ _ hb1]; rfl, frozen_of_row w2 _ 3 _ _ hb1⟩
theorem copy_next {W : World} {kk n : Int} {s : ByteArray} {us : List Tt} {sv v' : Value} {wr w1 w2 : World} {rows : List (List Value)} {u : Tt} {A : Option Addr} {c : Nat} (h : CopyAt W kk n s us sv wr)
    (hb : Below wr.heap.size wr (w1.alloc (.cells #[.int .i64 u.kind, .int .i64 u.num, .string u.name, .slice A u.args.length c] 25))) (ho : OwnRows TyR 4 (w1.alloc (.cells #[.int .i64 u.kind, .int .i64 u.num, .string u.name, .slice A u.args.length c] 25)) (W.heap.size + 2) 25 sv us rows)
    (hown : w2.ownsRow (W.heap.size + 2) 25 4 v' (us.length + 1) (rows.flatten ++ [.int .i64 u.kind, .int .i64 u.num, .string u.name, .slice A u.args.length c])) (hg : (w1.alloc (.cells #[.int .i64 u.kind, .int .i64 u.num, .string u.name, .slice A u.args.length c] 25)).grownBy w2 sv.ownBlock)
    (hv : v'.ownBlock = sv.ownBlock ∨ v'.ownBlock = some (w1.alloc (.cells #[.int .i64 u.kind, .int .i64 u.num, .string u.name, .slice A u.args.length c] 25)).heap.size)
    (hd : TyR.rd w1 (New wr.drew.heap.size w1) u [.int .i64 u.kind, .int .i64 u.num, .string u.name, .slice A u.args.length c]) (hb1 : Below wr.drew.heap.size wr.drew w1) :
    CopyAt W kk n s (us ++ [u]) v' (w2.setCell ⟨W.heap.size, 3, none⟩ v') := by
  have hz := h.size
  have hz1 : wr.heap.size ≤ w1.heap.size := hb1.size
  obtain ⟨A', c', hsv, _, _⟩ := Own.form (R := TyR) ⟨rows, ho⟩
  have hne : ∀ k, k < W.heap.size + 2 → sv.ownBlock ≠ some k := fun k hk e => by have := (ho.2.2.1.lt _ e).1; omega
  have hlt : ∀ k, sv.ownBlock = some k → k < wr.heap.size := fun k e => by
    obtain ⟨r, hr⟩ := h.own
    exact (hr.2.2.1.lt _ e).2
  generalize hw : w1.alloc (.cells #[.int .i64 u.kind, .int .i64 u.num, .string u.name, .slice A u.args.length c] 25) = wa at *
  have hwz : wa.heap.size = w1.heap.size + 1 := by rw [← hw]; simp
  have hown2 : Own TyR 4 w2 (W.heap.size + 2) 25 v' (us ++ [u]) := by
    refine ho.snoc rfl ?_ hown hg hv
    have hk : Same (New wr.drew.heap.size w1) w1 wa := by rw [← hw]; exact Same.of_below (below_new _ _) fun b hb => hb.2
    refine TyR.more (fun b hb => ⟨?_, ?_, fun e => ?_⟩) (TyR.keep hk hd)
    · have : wr.heap.size ≤ b := hb.1; omega
    · have := hb.2; omega
    · have h1 : wr.heap.size ≤ b := hb.1
      have := hlt _ e; omega
  have hb2 : ∀ k, k < W.heap.size + 2 → w2.heap[k]? = wr.heap[k]? := fun k hk => by rw [hg.block _ (by omega) (fun e => hne k hk e.symm), hb.block _ (by omega)]
  have hbx := (hb2 W.heap.size (by omega)).trans h.box
  have hsz : w2.heap.size ≤ (w2.setCell ⟨W.heap.size, 3, none⟩ v').heap.size := by simp
  refine ⟨?_, ?_, ?_, ?_⟩
  · rw [heap_setCell_same w2 _ 3 _ _ _ hbx]; rfl
  · rw [heap_setCell_other w2 _ _ _ (by simp)]; exact (hb2 _ (by omega)).trans h.res
  · exact hown2.keep (fun k hk _ => heap_setCell_other w2 _ _ _ (by simp; omega)) hsz
  · refine ⟨?_, ?_, ?_, ?_, ?_⟩
    · exact hg.os.trans (hb.os.trans h.below.os)
    · exact hg.tape.trans (hb.tape.trans h.below.tape)
    · exact hg.output.trans (hb.output.trans h.below.output)
    · have := h.below.size; have := hg.size; omega
    · intro k hk
      rw [heap_setCell_other w2 _ _ _ (by simp; omega), hb2 k (by omega), h.below.block k hk]
theorem setRow_row {w : World} {g : Nat} {old cs : Array Value} {t : TypeId} {fr : Nat × Nat} (h : w.heap[g]? = some (.cells old t fr)) : (w.setRow g cs).heap[g]? = some (.cells cs t fr) := by
  unfold World.setRow
  simp only [Array.getElem?_modify, if_pos, h, Option.map_some]
theorem size_setRow (w : World) (g : Nat) (cs : Array Value) : (w.setRow g cs).heap.size = w.heap.size := by unfold World.setRow; simp
theorem setRow_old {w : World} {g k : Nat} {cs : Array Value} (h : k ≠ g) : (w.setRow g cs).heap[k]? = w.heap[k]? := by unfold World.setRow; rw [Array.getElem?_modify, if_neg (by omega)]
theorem copy_end {w w1 : World} {u : Tt} {cs : List Value} {r : Array Value} (h : TyR.rd w1 (New (w.heap.size + 2) w1) u cs) : TyR.rd (w1.setRow (w.heap.size + 1) r) (New w.heap.size (w1.setRow (w.heap.size + 1) r)) u cs :=
  TyR.more (S := New (w.heap.size + 2) w1) (fun b hb => ⟨by have := hb.1; omega, by rw [size_setRow]; exact hb.2⟩) (TyR.keep (fun b o hb => World.cell?_of_block (a := ⟨b, o, none⟩) (setRow_old (by have := hb.1; show b ≠ _; omega))) h)
theorem copy_below {w wr w1 : World} {r : Array Value} (h : Below w.heap.size w wr) (h1 : Below wr.heap.size wr w1) : Below w.heap.size w (w1.setRow (w.heap.size + 1) r) := by
  have h2 := below_then h h1
  exact ⟨h2.os, h2.tape, h2.output, by rw [size_setRow]; exact h2.size, fun k hk => (setRow_old (by omega)).trans (h2.block k hk)⟩
set_option maxHeartbeats 1000000 in
theorem copied_any {w0 : World} {f : Nat} {cap : Array Value} {g : Tt → Tt} (hG : Gives w0 f cap g) :
    ∀ (d : Nat) (k n : Int) (s : ByteArray) (l : List Tt) (A : Option Addr) (c : Nat) (w : World) (S : Nat → Prop), Below w0.heap.size w0 w → (∀ b, S b → b < w.heap.size) → TyRd w S d (.mk k n s l) [.int .i64 k, .int .i64 n, .string s, .slice A l.length c] →
      Calls Try.prog 46 #[.agg #[.int .i64 k, .int .i64 n, .string s, .slice A l.length c], .func (.func f) #[] cap] w (Made w w.heap.size (cp g (.mk k n s l))) := by
  intro d
  induction d with
  | zero => intro k n s l A c w S _ _ h; exact h.elim
  | succ d ih =>
    intro k n s l A c w S hb0 hS h
    obtain ⟨A', c', hcs, hn, hl, hs, hk⟩ := h
    simp only [List.cons.injEq, Value.slice.injEq, and_true, true_and] at hcs
    obtain ⟨rfl, rfl⟩ := hcs
    have HK := Lib.hid hk
    have HS := Lib.hid hS
    have HIH := Lib.hid ih
    have HG := Lib.hid hG.2
    have HB0 := Lib.hid hb0
    have hcf := hG.1
    clear hk hS ih hG hb0
    go_enter Try.func46, Try.ntmps46
    go_wp2_with fail
    go_loopw [12] (fun z wr => ∃ (k' : Nat) (sv : Value), k' ≤ l.length ∧ z = .int .i64 k' ∧ CopyAt w k n s ((l.take k').map (cp g)) sv wr) (fun z _ => l.length - (intOf z).toNat)
    case atStart => exact ⟨0, .slice none 0 0, Nat.zero_le _, rfl, heap_alloc2_old _ _ _, heap_alloc2_new _ _ _, Own.nil _ _ _ _ _, (below_new _ _).alloc (by simp) _⟩
    case round =>
      obtain ⟨k', sv, hk', rfl, hat⟩ := hrel
      have HAT := Lib.hid hat
      have hz := hat.size
      clear hat
      by_cases hlt : k' < l.length
      · obtain ⟨b, o, cs, rfl, hSb, hr, hd⟩ := HK.out k' _ (List.getElem?_eq_getElem hlt)
        obtain ⟨tk, htk⟩ : ∃ u, u = l[k'] := ⟨_, rfl⟩
        rw [← htk] at hd
        obtain ⟨k2, n2, s2, l2⟩ := tk
        cases d with
        | zero => exact hd.elim
        | succ d =>
        have hd0 := hd
        obtain ⟨A2, c2, rfl, _⟩ := hd
        have hwr := HAT.out.below
        have HR : Hid (∀ W', Below wr.heap.size wr W' → W'.rangeAt b (o + k' * 4) [.int .i64 k2, .int .i64 n2, .string s2, .slice A2 l2.length c2]) := Lib.hid fun W' hW => range_same hr (Same.of_below (hwr.trans (hW.mono (by omega))) HS.out) hSb
        have HC : Hid (∀ W', Below wr.heap.size wr W' → W'.cell? ⟨w.heap.size, 3, none⟩ = some sv) := Lib.hid fun W' hW => HAT.out.cell hW
        have HD : Hid (∀ W', Below wr.heap.size wr W' → Calls Try.prog 46 #[.agg #[.int .i64 k2, .int .i64 n2, .string s2, .slice A2 l2.length c2], .func (.func f) #[] cap] W' (Made W' W'.heap.size (cp g (.mk k2 n2 s2 l2)))) := Lib.hid fun W' hW => by
          have h1 : Below w.heap.size w W' := hwr.trans (hW.mono (by omega))
          have h2 := h1.size
          exact HIH.out k2 n2 s2 l2 A2 c2 W' S (below_then HB0.out h1) (fun b hb => by have := HS.out b hb; omega) (hd0.keep (Same.of_below h1 HS.out))
        have HT := Lib.hid htk
        clear hr hd0 htk hwr
        have g1 : k' < l.length := hlt
        go_wp2
        refine wp_region_K (fun w' => Below wr.heap.size wr w') (fun j => j != 9 && j != 11) (by kernel_rfl) ?_
        refine wpK_take0 (v := ?_) (a' := ?_) 0 rfl (by kernel_rfl) (by kernel_rfl) (by kernel_rfl) (by kernel_rfl) (fun _ _ _ h => h) ?_ ?_ ?_
        rotate_left 2
        · refine .inl ⟨by kernel_rfl, ?_⟩; intro wS hS; clear hS; go_simp; with_reducible rfl
        · go_simp; with_reducible rfl
        refine wpK_take (v := ?_) (a' := ?_) 1 rfl (by kernel_rfl) (by kernel_rfl) (by kernel_rfl) (by kernel_rfl) (by kernel_rfl) (fun _ _ _ h => h) (below_drew1 (Below.refl _ _)) ?_ ?_ ?_
        rotate_left 2
        · refine .inl ⟨by kernel_rfl, ?_⟩; intro wS hS; have q1 := HC.out _ hS; go_simp; with_reducible rfl
        · go_simp; with_reducible rfl
        refine wpK_take0 (v := ?_) (a' := ?_) 2 rfl (by kernel_rfl) (by kernel_rfl) (by kernel_rfl) (by kernel_rfl) (fun _ _ _ h => h) ?_ ?_ ?_
        rotate_left 2
        · refine .inl ⟨by kernel_rfl, ?_⟩; intro wS hS; clear hS; go_simp; with_reducible rfl
        · go_simp; with_reducible rfl
        refine wpK_take0 (v := ?_) (a' := ?_) 3 rfl (by kernel_rfl) (by kernel_rfl) (by kernel_rfl) (by kernel_rfl) (fun _ _ _ h => h) ?_ ?_ ?_
        rotate_left 2
        · refine .inl ⟨by kernel_rfl, ?_⟩; intro wS hS; clear hS; go_simp; with_reducible rfl
        · go_simp; with_reducible rfl
        refine wpK_take0 (v := ?_) (a' := ?_) 4 rfl (by kernel_rfl) (by kernel_rfl) (by kernel_rfl) (by kernel_rfl) (fun _ _ _ h => h) ?_ ?_ ?_
        rotate_left 2
        · refine .inl ⟨by kernel_rfl, ?_⟩; intro wS hS; clear hS; go_simp; with_reducible rfl
        · go_simp; with_reducible rfl
        refine wpK_take (v := (.agg #[.int .i64 k2, .int .i64 n2, .string s2, .slice A2 l2.length c2])) (a' := ?_) 5 rfl (by kernel_rfl) (by kernel_rfl) (by kernel_rfl) (by kernel_rfl) (by kernel_rfl) (fun _ _ _ h => h) (below_drew1 (Below.refl _ _)) ?_ ?_ ?_
        rotate_left 1
        · exact yieldsIf_load_mid (by kernel_rfl) 25 (.tmp 19) rfl b (o + k' * 4) (by go_simp) _ _ (fun wS hS => HR.out _ hS) Try.underlying25 rfl (tySize _ _ _ _)
        · go_simp; with_reducible rfl
        refine wpK_take0 (v := ?_) (a' := ?_) 6 rfl (by kernel_rfl) (by kernel_rfl) (by kernel_rfl) (by kernel_rfl) (fun _ _ _ h => h) ?_ ?_ ?_
        rotate_left 2
        · refine .inl ⟨by kernel_rfl, ?_⟩; intro wS hS; clear hS; go_simp; with_reducible rfl
        · go_simp; with_reducible rfl
        refine wpK_one 7 rfl (by kernel_rfl) (fun K hK => ?_)
        have HKK := Lib.hid hK
        clear hK
        go_wp2_with fail
        refine (HD.out _ (below_drew1 (Below.refl _ _))).mono ?_
        rintro e w1 ⟨A3, c3, rfl, h3, hb1⟩
        have HM := Lib.hid (And.intro h3 hb1)
        have hz1 : wr.heap.size ≤ w1.heap.size := hb1.size
        clear h3 hb1
        go_wp2
        refine HKK.out _ _ (fun _ hS => hS.trans (HM.out.2.mono (by simp))) ?_
        refine wpK_one 8 rfl (by kernel_rfl) (fun K hK => ?_)
        have HKK := Lib.hid hK
        clear hK
        go_wp2
        refine HKK.out _ _ (fun _ hS => hS.trans ((below_new _ _).mono hS.size)) ?_
        refine wpK_one 9 rfl (by kernel_rfl) (fun K hK => ?_)
        have HKK := Lib.hid hK
        clear hK
        have hbw : Below wr.heap.size wr (w1.alloc (.cells #[.int .i64 (cp g (.mk k2 n2 s2 l2)).kind, .int .i64 (cp g (.mk k2 n2 s2 l2)).num, .string (cp g (.mk k2 n2 s2 l2)).name, .slice A3 (cp g (.mk k2 n2 s2 l2)).args.length c3] 25)) :=
          (below_drew1 (Below.refl wr.heap.size wr)).trans ((HM.out.2.mono (by simp)).trans ((below_new _ _).mono hz1))
        obtain ⟨rows, hrows⟩ := HAT.out.own.below hbw
        have HRO := Lib.hid hrows
        have HBW := Lib.hid hbw
        obtain ⟨i0, hi, hi0, hi1, hi2⟩ := info_parts tyInfo
        have HI := Lib.hid (And.intro hi (And.intro hi0 (And.intro hi1 hi2)))
        clear hi hi0 hi1 hi2 hrows hbw
        have hus : ((l.take k').map (cp g)).length = k' := by rw [List.length_map, List.length_take]; omega
        refine wpList_append_own_at _ rfl (.tmp 16) (.tmp 23) 23 rfl (w.heap.size + 2) 25 i0 (.agg #[.int .i64 0, .int .i64 0, .string ⟨#[]⟩, .slice none 0 0]) 4 56 Try.underlying23 HI.out.1 HI.out.2.1 HI.out.2.2.1 HI.out.2.2.2 rfl (by decide)
          sv ((l.take k').map (cp g)).length rows.flatten rfl HRO.out.2.2.1 ⟨w1.heap.size, 0, none⟩ 1 1 [.int .i64 (cp g (.mk k2 n2 s2 l2)).kind, .int .i64 (cp g (.mk k2 n2 s2 l2)).num, .string (cp g (.mk k2 n2 s2 l2)).name, .slice A3 (cp g (.mk k2 n2 s2 l2)).args.length c3] rfl rfl ?c1 ?c2 ?c3 ?c4 ?c5 ?_
        case c1 => exact new_cells _ _ _
        case c2 => simp [Value.oneCell']
        case c3 => rw [hus]; unfold maxLen; omega
        case c4 => rw [hus]; omega
        case c5 => simp; omega
        intro v' w2 hown2 hgrow _ hv'
        obtain ⟨A4, n4, c4, rfl⟩ := own_slice hown2
        have HO := Lib.hid (And.intro hown2 (And.intro hgrow hv'))
        clear hown2 hgrow hv' hus
        refine wpList_nil ?_
        refine HKK.out _ _ (fun h => absurd h (by decide)) ?_
        refine wpK_one 10 rfl (by kernel_rfl) (fun K hK => ?_)
        have HKK := Lib.hid hK
        clear hK
        go_wp2
        refine HKK.out _ _ (fun _ hS => hS) ?_
        refine wpK_one 11 rfl (by kernel_rfl) (fun K hK => ?_)
        have HKK := Lib.hid hK
        clear hK
        obtain ⟨e1, e2⟩ := copy_cell HAT.out HBW.out HRO.out HO.out.2.1
        go_wp2
        refine HKK.out _ _ (fun h => absurd h (by decide)) ?_
        refine wpK_end (by kernel_rfl) ?_ _
        have HN := Lib.hid (copy_next HAT.out HBW.out HRO.out HO.out.1 HO.out.2.1 HO.out.2.2 HM.out.1 HM.out.2)
        clear HKK HO HRO HI HBW HD HR HC HM e1 e2
        go_wp2
        go_roundw
        case rel => exact ⟨k' + 1, _, by omega, by go_num, by rw [take_map _ _ _ hlt, ← HT.out]; exact HN.out⟩
        case measure => simp [intOf]; omega
      · obtain rfl : k' = l.length := by omega
        rw [List.take_length] at HAT
        obtain ⟨A5, c5, hsv, _, _⟩ := HAT.out.own.form
        rw [List.length_map] at hsv
        subst hsv
        have hrd : TyR.rd wr (New (w.heap.size + 2) wr) (.mk k n s (l.map (cp g))) [.int .i64 k, .int .i64 n, .string s, .slice A5 l.length c5] := by
          have := HAT.out.own
          have h1 := TyR.mk (w := wr) (S := New (w.heap.size + 2) wr) (k := k) (n := n) (s := s) (l := l.map (cp g)) (A := A5) (c := c5) hn (by rw [List.length_map]; exact hl) hs (Own.rows (c := c5) (by rw [List.length_map]; exact HAT.out.own))
          rw [List.length_map] at h1; exact h1
        have HRD := Lib.hid hrd
        clear hrd
        have q0 : wr.cell? ⟨w.heap.size, 0, none⟩ = some (.int .i64 k) := by rw [cell_of_row wr _ 0 _ _ _ HAT.out.box]; rfl
        by_cases hk1 : k = 1
        · have hC : Calls Try.prog f (#[.agg #[.int .i64 k, .int .i64 n, .string s, .slice A5 l.length c5]] ++ cap) wr (Made wr (w.heap.size + 2) (g (.mk k n s (l.map (cp g))))) := by
            have := HG.out wr (.mk k n s (l.map (cp g))) A5 c5 (w.heap.size + 2) (below_then HB0.out HAT.out.below) (by have := HB0.out.size; omega) hz hk1 (by simpa only [Tt.kind, Tt.num, Tt.name, Tt.args, List.length_map] using HRD.out)
            simpa only [Tt.kind, Tt.num, Tt.name, Tt.args, List.length_map] using this
          have HC := Lib.hid hC
          have HE := Lib.hid (cp_var (g := g) (k := k) (n := n) (s := s) (l := l) hk1)
          have e1 : (k == 1) = true := by simpa using hk1
          clear hC hk1
          go_wp2_with (refine wpList_load_row rfl 25 _ rfl w.heap.size rfl 25 #[.int .i64 k, .int .i64 n, .string s, .slice A5 l.length c5] (0, 0) _ HAT.out.box Try.underlying25 rfl (tySizeA _ _ _ _) ?_)
          refine HC.out.mono ?_
          rintro e w1 ⟨A6, c6, rfl, h6, hb6⟩
          have HM := Lib.hid (And.intro h6 hb6)
          clear h6 hb6
          go_wp2_with (refine wpList_store_row rfl 25 _ _ rfl (w.heap.size + 1) _ rfl rfl 25 #[.int .i64 0, .int .i64 0, .string ⟨#[]⟩, .slice none 0 0] ((HM.out.2.block _ (by have := HAT.out.size; omega)).trans HAT.out.res) (tySizeA _ _ _ _) rfl (one4 _ _ _ _ _ _) ?_)
          refine bodyPost_ret (v := .agg #[.int .i64 (g (.mk k n s (l.map (cp g)))).kind, .int .i64 (g (.mk k n s (l.map (cp g)))).num, .string (g (.mk k n s (l.map (cp g)))).name, .slice A6 (g (.mk k n s (l.map (cp g)))).args.length c6]) (results_cell_row rfl _ _ (w.heap.size + 1) 25 _ (0, 0) _ rfl (setRow_row ((HM.out.2.block _ (by have := HAT.out.size; omega)).trans HAT.out.res)) Try.underlying25 rfl (tySizeA _ _ _ _)) rfl ?_
          rw [HE.out]
          exact ⟨A6, c6, rfl, copy_end HM.out.1, copy_below HAT.out.below HM.out.2⟩
        · have HE := Lib.hid (cp_con (g := g) (n := n) (s := s) (l := l) hk1)
          have e1 : (k == 1) = false := by simpa using hk1
          clear hk1
          go_wp2_with (first | (refine wpList_load_row rfl 25 _ rfl w.heap.size rfl 25 #[.int .i64 k, .int .i64 n, .string s, .slice A5 l.length c5] (0, 0) _ HAT.out.box Try.underlying25 rfl (tySizeA _ _ _ _) ?_) | (refine wpList_store_row rfl 25 _ _ rfl (w.heap.size + 1) _ rfl rfl 25 #[.int .i64 0, .int .i64 0, .string ⟨#[]⟩, .slice none 0 0] HAT.out.res (tySizeA _ _ _ _) rfl (one4 _ _ _ _ _ _) ?_))
          refine bodyPost_ret (v := .agg #[.int .i64 k, .int .i64 n, .string s, .slice A5 l.length c5]) (results_cell_row rfl _ _ (w.heap.size + 1) 25 _ (0, 0) _ rfl (setRow_row HAT.out.res) Try.underlying25 rfl (tySizeA _ _ _ _)) rfl ?_
          rw [HE.out]
          refine ⟨A5, c5, by simp only [Tt.kind, Tt.num, Tt.name, Tt.args, List.length_map], ?_, copy_below HAT.out.below (Below.refl _ _)⟩
          simp only [Tt.kind, Tt.num, Tt.name, Tt.args, List.length_map]
          exact copy_end HRD.out
end Go.Proofs.Ytgdclchpccbifaa
