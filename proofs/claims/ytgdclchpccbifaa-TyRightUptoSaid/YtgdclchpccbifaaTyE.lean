/-
  ty.Of, ty.Fn.
-/
import Derived.Test.YtgdclchpccbifaaTyD
namespace Go.Proofs.Ytgdclchpccbifaa
open Go.ChangeShapes Go.WideShapes Go.ChangeAt Go.RowKit
set_option linter.unusedVariables false
theorem Made.of {w : World} {B : Nat} {u : Tt} {k n : Int} {s : ByteArray} {l : List Tt} {e : Ending} {w' : World} (h : Made w B u e w') (hu : u = .mk k n s l) :
    ∃ A c, e = .returned (.agg #[.int .i64 k, .int .i64 n, .string s, .slice A l.length c]) ∧ TyR.rd w' (New B w') (.mk k n s l) [.int .i64 k, .int .i64 n, .string s, .slice A l.length c] ∧ Below w.heap.size w w' := by
  subst hu; exact h
theorem boxed_end {w wr : World} {u : Tt} {cs : List Value} {r : Array Value} {B b : Nat} (h : TyR.rd wr (New B wr) u cs) (hb : b < B) (hB : w.heap.size ≤ b) (hbw : Below w.heap.size w wr) : TyR.rd (wr.setRow b r) (New w.heap.size (wr.setRow b r)) u cs ∧ Below w.heap.size w (wr.setRow b r) :=
  ⟨TyR.more (S := New B wr) (fun x hx => ⟨by have := hx.1; omega, by rw [size_setRow]; exact hx.2⟩) (TyR.keep (fun x o hx => World.cell?_of_block (a := ⟨x, o, none⟩) (setRow_old (by have := hx.1; show x ≠ _; omega))) h),
   hbw.os, hbw.tape, hbw.output, by rw [size_setRow]; exact hbw.size, fun k hk => (setRow_old (by omega)).trans (hbw.block k hk)⟩
theorem itself_gives (w0 : World) : Gives w0 47 #[] id := by
  refine ⟨fun args w => by kernel_rfl, fun w t A c B hb hB hBw ht hr => ?_⟩
  obtain ⟨k, n, s, l⟩ := t
  have HR := Lib.hid hr
  clear hr hb hB ht
  show Calls Try.prog 47 #[.agg #[.int .i64 k, .int .i64 n, .string s, .slice A l.length c]] w (Made w B (.mk k n s l))
  go_enter Try.func47, Try.ntmps47
  go_wp2
  refine bodyPost_ret (v := .agg #[.int .i64 k, .int .i64 n, .string s, .slice A l.length c]) (results_cell_row rfl _ _ (w.heap.size + 1) 25 _ (0, 0) _ rfl (heap_alloc2_new _ _ _) Try.underlying25 rfl (tySizeA _ _ _ _)) rfl ?_
  have hb2 := (below_new w (.cells #[.int .i64 k, .int .i64 n, .string s, .slice A l.length c] 25)).alloc (by simp) (.cells #[.int .i64 k, .int .i64 n, .string s, .slice A l.length c] 25)
  exact ⟨A, c, rfl, TyR.more (fun b hb => ⟨hb.1, Nat.lt_of_lt_of_le hb.2 hb2.size⟩) (TyR.keep (Same.of_below hb2 fun b hb => hb.2) HR.out), hb2⟩
theorem of_any (s : ByteArray) (l : List Tt) (A : Option Addr) (c : Nat) (w : World) (S : Nat → Prop) (hS : ∀ b, S b → b < w.heap.size) (hs : s.size ≤ 1048576) (hl : l.length ≤ 1048576) (h : Rows TyR 4 w S A l) :
    Calls Try.prog 17 #[.string s, .slice A l.length c] w (Made w w.heap.size (.mk 2 0 s l)) := by
  have HC : Hid (Calls Try.prog 46 #[.agg #[.int .i64 2, .int .i64 0, .string s, .slice A l.length c], .func (.func 47) #[] #[]] (w.alloc (.cells #[.int .i64 0, .int .i64 0, .string ⟨#[]⟩, .slice none 0 0] 25)) (Made (w.alloc (.cells #[.int .i64 0, .int .i64 0, .string ⟨#[]⟩, .slice none 0 0] 25)) (w.heap.size + 1) (.mk 2 0 s l))) := Lib.hid (by
    obtain ⟨d, hd⟩ := TyR.mk (k := 2) (n := 0) (s := s) (c := c) (by omega) hl hs (h.keep (Same.of_below (below_new w (.cells #[.int .i64 0, .int .i64 0, .string ⟨#[]⟩, .slice none 0 0] 25)) hS))
    have := copied_any (itself_gives w) d 2 0 s l A c _ S (below_new w (.cells #[.int .i64 0, .int .i64 0, .string ⟨#[]⟩, .slice none 0 0] 25)) (fun b hb => by have := hS b hb; simp; omega) hd
    rw [cp_id, World.size_alloc] at this
    exact this)
  clear h hS
  go_enter Try.func17, Try.ntmps17
  go_wp2_with fail
  refine HC.out.mono ?_
  rintro e w1 ⟨A3, c3, rfl, h3, hb1⟩
  have HM := Lib.hid (And.intro h3 hb1)
  clear h3 hb1
  have hg : w1.heap[w.heap.size]? = some (.cells #[.int .i64 0, .int .i64 0, .string ⟨#[]⟩, .slice none 0 0] 25 (0, 0)) := (HM.out.2.block _ (by simp)).trans (heap_alloc_new _ _)
  have HG := Lib.hid hg
  clear hg
  go_wp2_with (refine wpList_store_row rfl 25 _ _ rfl w.heap.size _ rfl rfl 25 #[.int .i64 0, .int .i64 0, .string ⟨#[]⟩, .slice none 0 0] HG.out (tySizeA _ _ _ _) rfl (one4 _ _ _ _ _ _) ?_)
  refine bodyPost_ret (v := .agg #[.int .i64 2, .int .i64 0, .string s, .slice A3 l.length c3]) (results_cell_row rfl _ _ w.heap.size 25 _ (0, 0) _ rfl (setRow_row HG.out) Try.underlying25 rfl (tySizeA _ _ _ _)) rfl ?_
  obtain ⟨f1, f2⟩ := boxed_end (w := w) (r := #[.int .i64 2, .int .i64 0, .string s, .slice A3 l.length c3]) HM.out.1 (Nat.lt_succ_self _) (Nat.le_refl _) (below_then (below_new _ _) HM.out.2)
  exact ⟨A3, c3, rfl, f1, f2⟩
set_option maxHeartbeats 1000000 in
theorem fn_any (k n : Int) (s : ByteArray) (l : List Tt) (A : Option Addr) (c : Nat) (k' n' : Int) (s' : ByteArray) (l' : List Tt) (A' : Option Addr) (c' : Nat) (w : World) (S : Nat → Prop) (hS : ∀ b, S b → b < w.heap.size)
    (h : TyR.rd w S (.mk k n s l) [.int .i64 k, .int .i64 n, .string s, .slice A l.length c]) (h' : TyR.rd w S (.mk k' n' s' l') [.int .i64 k', .int .i64 n', .string s', .slice A' l'.length c']) :
    Calls Try.prog 18 #[.agg #[.int .i64 k, .int .i64 n, .string s, .slice A l.length c], .agg #[.int .i64 k', .int .i64 n', .string s', .slice A' l'.length c']] w (Made w w.heap.size (.mk 2 0 ⟨#[45, 62]⟩ [.mk k n s l, .mk k' n' s' l'])) := by
  have HB : Hid (∃ w4, w4 = (((w.alloc (.cells #[.int .i64 k, .int .i64 n, .string s, .slice A l.length c] 25)).alloc (.cells #[.int .i64 k', .int .i64 n', .string s', .slice A' l'.length c'] 25)).alloc (.cells #[.int .i64 0, .int .i64 0, .string ⟨#[]⟩, .slice none 0 0] 25)).alloc (.cells #[.int .i64 k, .int .i64 n, .string s, .slice A l.length c, .int .i64 k', .int .i64 n', .string s', .slice A' l'.length c'] 25) ∧ Below w.heap.size w w4 ∧ w4.heap.size = w.heap.size + 4 ∧ w4.heap[w.heap.size + 2]? = some (.cells #[.int .i64 0, .int .i64 0, .string ⟨#[]⟩, .slice none 0 0] 25 (0, 0)) ∧
      Calls Try.prog 17 #[.string ⟨#[45, 62]⟩, .slice (some ⟨w.heap.size + 3, 0, none⟩) 2 2] w4 (Made w4 (w.heap.size + 4) (.mk 2 0 ⟨#[45, 62]⟩ [.mk k n s l, .mk k' n' s' l']))) := Lib.hid (by
    refine ⟨_, rfl, ?_, by simp, ?_, ?_⟩
    · exact (((below_new w _).alloc (by simp) _).alloc (by simp; omega) _).alloc (by simp; omega) _
    · rw [heap_alloc_old _ _ (by simp), heap_alloc3_new]
    · have hb : Below w.heap.size w ((((w.alloc (.cells #[.int .i64 k, .int .i64 n, .string s, .slice A l.length c] 25)).alloc (.cells #[.int .i64 k', .int .i64 n', .string s', .slice A' l'.length c'] 25)).alloc (.cells #[.int .i64 0, .int .i64 0, .string ⟨#[]⟩, .slice none 0 0] 25)).alloc (.cells #[.int .i64 k, .int .i64 n, .string s, .slice A l.length c, .int .i64 k', .int .i64 n', .string s', .slice A' l'.length c'] 25)) := (((below_new w _).alloc (by simp) _).alloc (by simp; omega) _).alloc (by simp; omega) _
      have hsz : ((((w.alloc (.cells #[.int .i64 k, .int .i64 n, .string s, .slice A l.length c] 25)).alloc (.cells #[.int .i64 k', .int .i64 n', .string s', .slice A' l'.length c'] 25)).alloc (.cells #[.int .i64 0, .int .i64 0, .string ⟨#[]⟩, .slice none 0 0] 25)).alloc (.cells #[.int .i64 k, .int .i64 n, .string s, .slice A l.length c, .int .i64 k', .int .i64 n', .string s', .slice A' l'.length c'] 25)).heap.size = w.heap.size + 4 := by simp
      have hg := heap_alloc_new (((w.alloc (.cells #[.int .i64 k, .int .i64 n, .string s, .slice A l.length c] 25)).alloc (.cells #[.int .i64 k', .int .i64 n', .string s', .slice A' l'.length c'] 25)).alloc (.cells #[.int .i64 0, .int .i64 0, .string ⟨#[]⟩, .slice none 0 0] 25)) (.cells #[.int .i64 k, .int .i64 n, .string s, .slice A l.length c, .int .i64 k', .int .i64 n', .string s', .slice A' l'.length c'] 25)
      have hz3 : (((w.alloc (.cells #[.int .i64 k, .int .i64 n, .string s, .slice A l.length c] 25)).alloc (.cells #[.int .i64 k', .int .i64 n', .string s', .slice A' l'.length c'] 25)).alloc (.cells #[.int .i64 0, .int .i64 0, .string ⟨#[]⟩, .slice none 0 0] 25)).heap.size = w.heap.size + 3 := by simp
      rw [hz3] at hg
      generalize (((w.alloc (.cells #[.int .i64 k, .int .i64 n, .string s, .slice A l.length c] 25)).alloc (.cells #[.int .i64 k', .int .i64 n', .string s', .slice A' l'.length c'] 25)).alloc (.cells #[.int .i64 0, .int .i64 0, .string ⟨#[]⟩, .slice none 0 0] 25)).alloc (.cells #[.int .i64 k, .int .i64 n, .string s, .slice A l.length c, .int .i64 k', .int .i64 n', .string s', .slice A' l'.length c'] 25) = w4 at *
      have hsame : Same S w w4 := Same.of_below hb hS
      have hrows := Rows.block (R := TyR) (sz := 4) (S := S) (l := [Tt.mk k n s l, .mk k' n' s' l']) (rows := [[.int .i64 k, .int .i64 n, .string s, .slice A l.length c], [.int .i64 k', .int .i64 n', .string s', .slice A' l'.length c']]) hg (by
          intro j u hj; simpa using hj) (by simp) rfl (by
          intro i a r ha hr
          match i, ha, hr with
          | 0, ha, hr => simp only [List.getElem?_cons_zero, Option.some.injEq] at ha hr; subst ha; subst hr; exact TyR.keep hsame h
          | 1, ha, hr => simp only [List.getElem?_cons_succ, List.getElem?_cons_zero, Option.some.injEq] at ha hr; subst ha; subst hr; exact TyR.keep hsame h'
          | i + 2, ha, _ => simp at ha)
      have := of_any ⟨#[45, 62]⟩ [.mk k n s l, .mk k' n' s' l'] (some ⟨w.heap.size + 3, 0, none⟩) 2 w4 _ (fun b hb => by
        rcases hb with hb | rfl
        · have := hS b hb; omega
        · omega) (by decide) (by simp) hrows
      rw [hsz] at this
      exact this)
  obtain ⟨w4, hw4, hb4, hz4, hg4, hc4⟩ := HB.out
  have H4 := Lib.hid (And.intro hb4 (And.intro hz4 (And.intro hg4 hc4)))
  have HW := Lib.hid hw4
  clear HB h h' hS hw4 hb4 hz4 hg4 hc4
  go_enter Try.func18, Try.ntmps18
  go_wp2_with fail
  rw [← HW.out]
  refine H4.out.2.2.2.mono ?_
  rintro e w1 ⟨A3, c3, rfl, h3, hb1⟩
  have HM := Lib.hid (And.intro h3 hb1)
  clear h3 hb1
  have HG : Hid (w1.heap[w.heap.size + 2]? = some (.cells #[.int .i64 0, .int .i64 0, .string ⟨#[]⟩, .slice none 0 0] 25 (0, 0))) := Lib.hid ((HM.out.2.block _ (by have := H4.out.2.1; omega)).trans H4.out.2.2.1)
  go_wp2_with (refine wpList_store_row rfl 25 _ _ rfl (w.heap.size + 2) _ rfl rfl 25 #[.int .i64 0, .int .i64 0, .string ⟨#[]⟩, .slice none 0 0] HG.out (tySizeA _ _ _ _) rfl (one4 _ _ _ _ _ _) ?_)
  refine bodyPost_ret (v := .agg #[.int .i64 2, .int .i64 0, .string ⟨#[45, 62]⟩, .slice A3 2 c3]) (results_cell_row rfl _ _ (w.heap.size + 2) 25 _ (0, 0) _ rfl (setRow_row HG.out) Try.underlying25 rfl (tySizeA _ _ _ _)) rfl ?_
  obtain ⟨f1, f2⟩ := boxed_end (w := w) (b := w.heap.size + 2) (r := #[.int .i64 2, .int .i64 0, .string ⟨#[45, 62]⟩, .slice A3 2 c3]) HM.out.1 (by omega) (by omega) (below_then H4.out.1 HM.out.2)
  exact ⟨A3, c3, rfl, f1, f2⟩
end Go.Proofs.Ytgdclchpccbifaa
