/-
  THE REFERENCE's LIST OF NODES OF A TYPE.
-/
import Derived.Test.YtgdclchpccbifaaTyD
namespace Go.Proofs.Ytgdclchpccbifaa
open Go.ChangeShapes Go.WideShapes Go.ChangeAt Go.RowKit
set_option linter.unusedVariables false
def zDec : List Value := [.int .i64 0, .int .i64 0, .string ⟨#[]⟩, .int .i64 0, .slice none 0 0, .slice none 0 0, .slice none 0 0]
def zPat : List Value := [.int .i64 0, .int .i64 0, .string ⟨#[]⟩, .int .i64 0, .slice none 0 0]
def zTy : List Value := [.int .i64 0, .int .i64 0, .string ⟨#[]⟩, .slice none 0 0]
def zFun : List Value := [.string ⟨#[]⟩, .int .i64 0] ++ zPat ++ zDec
def zCon : List Value := [.string ⟨#[]⟩, .int .i64 0, .bool false] ++ zTy
def ndHead (at_ : Int) : List Value := [.int .i64 4, .bool false, .int .i64 at_] ++ zDec ++ zDec ++ zPat
def ndTail : List Value := zFun ++ zCon
def ndZ : List Value := [.int .i64 0, .bool false, .int .i64 0] ++ zDec ++ zDec ++ zPat ++ zTy ++ ndTail
theorem ndInfo : (Try.prog.info? 89).map (fun i => (i.zero, i.size, i.bytes)) = some (some (.agg ndZ.toArray), 47, 656) := by kernel_rfl
/-- A node of a type. -/
def NdR (at_ : Int) : Reading Tt where
  rd w S t cs := ∃ tc, TyR.rd w S t tc ∧ cs = ndHead at_ ++ tc ++ ndTail
  keep h := fun ⟨tc, h1, h2⟩ => ⟨tc, TyR.keep h h1, h2⟩
  more h := fun ⟨tc, h1, h2⟩ => ⟨tc, TyR.more h h1, h2⟩
/-- What OfTy returns. -/
def Nodes (w : World) (S : Nat → Prop) (at_ : Int) (l : List Tt) (e : Ending) (w' : World) : Prop :=
  ∃ A c rows, e = .returned (.slice A l.length c) ∧ OwnIn (NdR at_) 47 w' S w.heap.size 89 (.slice A l.length c) l rows ∧ Below w.heap.size w w'
/-- At the head of a round. -/
structure NdAt (at_ : Int) (W : World) (S : Nat → Prop) (t : Tt) (tc : List Value) (l : List Tt) (v : Value) (rows : List (List Value)) (wr : World) : Prop where
  box : wr.heap[W.heap.size]? = some (.cells tc.toArray 25 (0, 0))
  own : OwnIn (NdR at_) 47 wr S (W.heap.size + 1) 89 v (t :: l) rows
  below : Below W.heap.size W wr
theorem NdAt.size {at_ : Int} {W : World} {S : Nat → Prop} {t : Tt} {tc : List Value} {l : List Tt} {v : Value} {rows : List (List Value)} {wr : World} (h : NdAt at_ W S t tc l v rows wr) : W.heap.size + 1 ≤ wr.heap.size := by
  have := (Array.getElem?_eq_some_iff.1 h.box).1; omega
theorem NdAt.cell {at_ : Int} {W : World} {S : Nat → Prop} {t : Tt} {x y z u : Value} {l : List Tt} {v : Value} {rows : List (List Value)} {wr w' : World} (h : NdAt at_ W S t [x, y, z, u] l v rows wr) (hb : Below wr.heap.size wr w') : w'.cell? ⟨W.heap.size, 3, none⟩ = some u := by
  have h1 := h.size
  rw [cell_of_row w' W.heap.size 3 _ _ _ ((hb.block _ (by omega)).trans h.box)]; rfl
theorem preL_len_le {l : List Tt} {k : Nat} (h : k < l.length) : (preL (l.take k)).length + (pre l[k]).length ≤ (preL l).length := by
  have e : l = l.take (k + 1) ++ l.drop (k + 1) := (List.take_append_drop _ _).symm
  have h1 := congrArg List.length (preL_take l k h)
  have h2 : (preL l).length = (preL (l.take (k + 1))).length + (preL (l.drop (k + 1))).length := by rw [← List.length_append, ← preL_append, ← e]
  simp at h1; omega
theorem nd_row {at_ : Int} {w : World} {S : Nat → Prop} {t : Tt} {cs : List Value} (h : (NdR at_).rd w S t cs) : cs.length = 47 ∧ ∀ u ∈ cs, u.oneCell' = true := by
  obtain ⟨tc, h1, rfl⟩ := h
  obtain ⟨A, c, rfl, _⟩ := TyR.open_ h1
  exact ⟨rfl, by simp [ndHead, ndTail, zDec, zPat, zFun, zCon, zTy, Value.oneCell']⟩
theorem nd_own {at_ : Int} {w : World} {S : Nat → Prop} {base : Nat} {v : Value} {l : List Tt} {rows : List (List Value)} {N : Nat} (h : OwnIn (NdR at_) 47 w S base 89 v l rows) (hN : l.length = N) : w.ownsRow base 89 47 v N rows.flatten := hN ▸ h.2.2.1
theorem nd_len {at_ : Int} {w : World} {S : Nat → Prop} {base : Nat} {v : Value} {l : List Tt} {rows : List (List Value)} {N : Nat} (h : OwnIn (NdR at_) 47 w S base 89 v l rows) (hN : l.length = N) : rows.flatten.length = N * 47 := by rw [flat_len h.2.1, h.1, hN]
theorem nd_cells {at_ : Int} {w : World} {S : Nat → Prop} {base g n c : Nat} {l : List Tt} {rows : List (List Value)} (h : OwnIn (NdR at_) 47 w S base 89 (.slice (some ⟨g, 0, none⟩) n c) l rows) : ∀ j u, rows.flatten[j]? = some u → w.cell? ((⟨g, 0, none⟩ : Addr).add j) = some u := h.2.2.1.cells rfl
theorem nd_one {at_ : Int} {w : World} {S : Nat → Prop} {base : Nat} {v : Value} {l : List Tt} {rows : List (List Value)} (h : OwnIn (NdR at_) 47 w S base 89 v l rows) : ∀ u ∈ rows.flatten, u.oneCell' = true := fun u hu => by
  obtain ⟨r, hr, hur⟩ := List.mem_flatten.1 hu
  obtain ⟨i, hi, rfl⟩ := List.getElem_of_mem hr
  have hl := h.1
  exact (nd_row (h.2.2.2 i l[i] rows[i] (List.getElem?_eq_getElem (by omega)) (List.getElem?_eq_getElem hi))).2 u hur
theorem nd_start {w : World} {S : Nat → Prop} {t : Tt} {tc : List Value} (at_ : Int) (hS : ∀ b, S b → b < w.heap.size) (h : TyR.rd w S t tc) :
    NdAt at_ w S t tc [] (.slice (some ⟨w.heap.size + 1, 0, none⟩) 1 1) [ndHead at_ ++ tc ++ ndTail] ((w.alloc (.cells tc.toArray 25)).alloc (.cells (ndHead at_ ++ tc ++ ndTail).toArray 89)) := by
  have hb : Below w.heap.size w ((w.alloc (.cells tc.toArray 25)).alloc (.cells (ndHead at_ ++ tc ++ ndTail).toArray 89)) := (below_new _ _).alloc (by simp) _
  obtain ⟨A, c, htc, _⟩ := TyR.open_ h
  refine ⟨heap_alloc2_old _ _ _, ⟨rfl, fun r hr => ?_, ⟨?_, .inr ⟨w.heap.size + 1, 1, _, rfl, Nat.le_refl _, heap_alloc2_new _ _ _, Nat.le_refl _, by decide, ?_, ?_⟩⟩, fun i a r ha hr => ?_⟩, hb⟩
  · rw [List.mem_singleton.1 hr, htc]; rfl
  · rw [htc]; rfl
  · rw [htc]; rfl
  · rw [htc]; rfl
  · cases i with
    | zero =>
      simp only [List.getElem?_cons_zero, Option.some.injEq] at ha hr
      subst ha; subst hr
      exact ⟨tc, TyR.keep (Same.of_below hb hS) h, rfl⟩
    | succ i => simp at hr
theorem nd_next {at_ : Int} {W wr w1 w2 : World} {S : Nat → Prop} {t : Tt} {tc : List Value} {l l' : List Tt} {v v' v3 : Value} {rows rows' : List (List Value)} (hS : ∀ b, S b → b < W.heap.size) (h : NdAt at_ W S t tc l v rows wr)
    (ho : OwnIn (NdR at_) 47 w1 S (W.heap.size + 1) 89 v (t :: l) rows) (h' : OwnIn (NdR at_) 47 w1 S wr.heap.size 89 v3 l' rows') (hb : Below wr.heap.size wr w1)
    (hown : w2.ownsRow (W.heap.size + 1) 89 47 v' ((t :: l).length + l'.length) (rows.flatten ++ rows'.flatten)) (hg : w1.grownBy w2 v.ownBlock) : NdAt at_ W S t tc (l ++ l') v' (rows ++ rows') w2 := by
  have hz := h.size
  have hz1 := hb.size
  have hne : ∀ k, k < W.heap.size + 1 → v.ownBlock ≠ some k := fun k hk e => by have := (ho.2.2.1.lt _ e).1; omega
  have hk : ∀ k, k < W.heap.size + 1 → w2.heap[k]? = wr.heap[k]? := fun k hlt => by rw [hg.block _ (by omega) (fun e => hne k hlt e.symm), hb.block _ (by omega)]
  refine ⟨(hk _ (by omega)).trans h.box, ?_, ⟨hg.os.trans (hb.os.trans h.below.os), hg.tape.trans (hb.tape.trans h.below.tape), hg.output.trans (hb.output.trans h.below.output), ?_, fun k hlt => ?_⟩⟩
  · exact ho.app h'.1 h'.2.1 h'.2.2.2 hown (Same.grown hg fun b hb => ⟨by have := hS b hb; omega, hne b (by have := hS b hb; omega)⟩)
  · have := h.below.size; have := hg.size; omega
  · rw [hk k (by omega), h.below.block k hlt]
theorem nd_end {at_ : Int} {W wr : World} {S : Nat → Prop} {t : Tt} {tc : List Value} {l : List Tt} {v : Value} {rows : List (List Value)} (h : NdAt at_ W S t tc l v rows wr) : OwnIn (NdR at_) 47 wr S W.heap.size 89 v (t :: l) rows ∧ Below W.heap.size W wr := by
  refine ⟨⟨h.own.1, h.own.2.1, ⟨h.own.2.2.1.1, ?_⟩, h.own.2.2.2⟩, h.below⟩
  rcases h.own.2.2.1.2 with h0 | ⟨g, cap, cur, hv, hg, rest⟩
  · exact .inl h0
  · exact .inr ⟨g, cap, cur, hv, by omega, rest⟩
set_option maxRecDepth 100000 in
set_option maxHeartbeats 1000000 in
theorem ofTy_any (at_ : Int) : ∀ (d : Nat) (k n : Int) (s : ByteArray) (l : List Tt) (A : Option Addr) (c : Nat) (w : World) (S : Nat → Prop), (∀ b, S b → b < w.heap.size) → (pre (.mk k n s l)).length ≤ 1048576 → TyRd w S d (.mk k n s l) [.int .i64 k, .int .i64 n, .string s, .slice A l.length c] →
      Calls Try.prog 44 #[.agg #[.int .i64 k, .int .i64 n, .string s, .slice A l.length c], .int .i64 at_] w (Nodes w S at_ (pre (.mk k n s l))) := by
  intro d
  induction d with
  | zero => intro k n s l A c w S _ _ h; exact h.elim
  | succ d ih =>
    intro k n s l A c w S hS hfew h
    have h0 := h
    obtain ⟨A', c', hcs, hn, hl, hs, hk⟩ := h
    simp only [List.cons.injEq, Value.slice.injEq, and_true, true_and] at hcs
    obtain ⟨rfl, rfl⟩ := hcs
    have HK := Lib.hid hk
    have HS := Lib.hid hS
    have HIH := Lib.hid ih
    have HF := Lib.hid hfew
    have HT := Lib.hid h0
    clear hk hS ih hfew h0
    go_enter Try.func44, Try.ntmps44
    go_wp2
    go_loopw [5, 6] (fun v z wr => ∃ (j : Nat) (rows : List (List Value)), j ≤ l.length ∧ z = .int .i64 j ∧ NdAt at_ w S (.mk k n s l) [.int .i64 k, .int .i64 n, .string s, .slice A l.length c] (preL (l.take j)) v rows wr) (fun _ z _ => l.length - (intOf z).toNat)
    case atStart =>
      have h := nd_start at_ HS.out ⟨_, HT.out⟩
      simp only [ndHead, ndTail, zDec, zPat, zFun, zCon, zTy, List.cons_append, List.nil_append] at h
      exact ⟨0, _, Nat.zero_le _, rfl, h⟩
    case round =>
      obtain ⟨j, rows, hj, rfl, hat⟩ := hrel
      have HAT := Lib.hid hat
      have hz := hat.size
      obtain ⟨A5, c5, hv, _⟩ := hat.own.form
      obtain ⟨N, hN⟩ : ∃ N, (Tt.mk k n s l :: preL (l.take j)).length = N := ⟨_, rfl⟩
      rw [hN] at hv
      subst hv
      have HNN := Lib.hid hN
      clear hat hN
      have q0 := HAT.out.cell (Below.refl _ _)
      by_cases hlt : j < l.length
      · obtain ⟨b, o, cs, rfl, hSb, hr, hd⟩ := HK.out j _ (List.getElem?_eq_getElem hlt)
        have HTK : Hid (preL (l.take (j + 1)) = preL (l.take j) ++ pre l[j]) := Lib.hid (preL_take l j hlt)
        have hle := preL_len_le (l := l) (k := j) hlt
        generalize l[j] = x at *
        obtain ⟨k2, n2, s2, l2⟩ := x
        cases d with
        | zero => exact hd.elim
        | succ d =>
        have hd0 := hd
        obtain ⟨A2, c2, rfl, _⟩ := hd
        have hwr := HAT.out.below
        have hfe := HF.out
        simp only [pre, List.length_cons] at hfe
        have HLE := Lib.hid hle
        have HR : Hid (wr.rangeAt b (o + j * 4) [.int .i64 k2, .int .i64 n2, .string s2, .slice A2 l2.length c2]) := Lib.hid (range_same hr (Same.of_below hwr HS.out) hSb)
        have HD : Hid (Calls Try.prog 44 #[.agg #[.int .i64 k2, .int .i64 n2, .string s2, .slice A2 l2.length c2], .int .i64 at_] wr (Nodes wr S at_ (pre (.mk k2 n2 s2 l2)))) := Lib.hid (HIH.out k2 n2 s2 l2 A2 c2 wr S (fun b hb => by have := HS.out b hb; omega) (by omega) (hd0.keep (Same.of_below hwr HS.out)))
        have HPL : Hid (0 < (pre (.mk k2 n2 s2 l2)).length) := Lib.hid (by simp [pre])
        have HLL : Hid ((Tt.mk k n s l :: preL (l.take j)).length + (pre (.mk k2 n2 s2 l2)).length ≤ 1048576) := Lib.hid (by simp only [List.length_cons]; omega)
        clear hr hd0 hwr hle hfe
        go_wp2_with (refine wpList_load_mid rfl 25 _ rfl b (o + j * 4) rfl _ _ HR.out Try.underlying25 rfl (tySize _ _ _ _) ?_)
        refine HD.out.mono ?_
        rintro e w1 ⟨A3, c3, rows3, rfl, ho3, hb1⟩
        obtain ⟨g3, c3', hv3, hg3, hg3', _⟩ := ho3.filled HPL.out
        injection hv3 with hA3 _ hc3
        subst hA3
        have HM := Lib.hid (And.intro ho3 hb1)
        have hz1 : wr.heap.size ≤ w1.heap.size := hb1.size
        have ho1 := HAT.out.own.below hb1 (fun b hb => by have := HS.out b hb; omega)
        have HO1 := Lib.hid ho1
        obtain ⟨i0, hi, hi0, hi1, hi2⟩ := info_parts ndInfo
        have HI := Lib.hid (And.intro hi (And.intro hi0 (And.intro hi1 hi2)))
        clear hi hi0 hi1 hi2 ho3 hb1 ho1 hc3
        generalize hM : (pre (.mk k2 n2 s2 l2)).length = M at *
        have HNM := Lib.hid (And.intro HNN.out hM)
        clear hM
        have hll := HLL.out
        rw [HNN.out] at hll
        go_wp2_with (at_builtin; refine wpList_append_own_at _ rfl (.tmp 18) (.tmp 25) 63 rfl (w.heap.size + 1) 89 i0 (.agg ndZ.toArray) 47 656 Try.underlying63 HI.out.1 HI.out.2.1 HI.out.2.2.1 HI.out.2.2.2 rfl (by decide) (.slice A5 N c5) N rows.flatten rfl (nd_own HO1.out HNM.out.1) ⟨g3, 0, none⟩ M c3 rows3.flatten rfl (nd_len HM.out.1 HNM.out.2) (nd_cells HM.out.1) (nd_one HM.out.1) ?c3 ?c4 ?c5 ?_)
        case c3 => unfold maxLen; omega
        case c4 => omega
        case c5 => omega
        intro v' w2 hown2 hgrow _ hv'
        obtain ⟨A4, n4, c4, rfl⟩ := own_slice hown2
        have HO := Lib.hid (And.intro hown2 (And.intro hgrow hv'))
        clear hown2 hgrow hv' hll
        go_wp2
        go_roundw
        case rel =>
          refine ⟨j + 1, rows ++ rows3, by omega, by go_num, ?_⟩
          rw [HTK.out]
          obtain ⟨e1, e2⟩ := HNM.out
          exact nd_next HS.out HAT.out HO1.out HM.out.1 HM.out.2 (by rw [e1, e2]; exact HO.out.1) HO.out.2.1
        case measure => simp [intOf]; omega
      · obtain rfl : j = l.length := by omega
        rw [List.take_length] at *
        go_wp2
        go_ret
        obtain ⟨f1, f2⟩ := nd_end HAT.out
        have e1 := HNN.out
        subst e1
        exact ⟨A5, c5, rows, by simp [pre], f1, f2⟩
end Go.Proofs.Ytgdclchpccbifaa
