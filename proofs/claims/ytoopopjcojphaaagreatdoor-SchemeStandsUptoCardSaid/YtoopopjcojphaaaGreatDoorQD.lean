import Derived.Test.YtoopopjcojphaaaGreatDoorQC
import Derived.Test.YtoopopjcojphaaaGreatDoorQB
/-
  ty.Vars, ty.Canon, ty.Put.
-/
namespace Go.Proofs.YtoopopjcojphaaaGreatDoor
open Go.ChangeShapes Go.WideShapes Go.ChangeAt Go.RowKit
set_option linter.unusedVariables false
/-- A struct in a new block. -/
theorem boxed {w : World} {S : Nat → Prop} {d : Nat} {t : Tt} {cs : List Value} (hS : ∀ b, S b → b < w.heap.size) (h : TyRd w S d t cs) : TyP (w.alloc (.cells cs.toArray 25)) (Lt (w.heap.size + 1)) d t w.heap.size 0 := by
  refine ⟨Nat.lt_succ_self _, cs, fun j u hj => ?_, TyRd.more (S := S) (fun b hb => by have := hS b hb; show b < w.heap.size + 1; omega) _ _ _ (TyRd.keep (Same.of_below (below_new w _) hS) _ _ _ h)⟩
  rw [Nat.zero_add, cell_of_row _ _ j cs.toArray _ (0, 0) (heap_alloc_new w _)]; simpa using hj
/-- A list of numbers comes back. -/
def IntsMade (w : World) (vs : List Int) (e : Ending) (w' : World) : Prop :=
  ∃ A c, e = .returned (.slice A vs.length c) ∧ IntsAt w' w'.heap.size A vs ∧ vs.length ≤ c ∧ c ≤ maxLen ∧ (∀ ad : Addr, A = some ad → w.heap.size ≤ ad.block) ∧ Below w.heap.size w w'
theorem vars_any (d : Nat) (k n : Int) (s : ByteArray) (l : List Tt) (A : Option Addr) (c : Nat) (w : World) (S : Nat → Prop) (hS : ∀ b, S b → b < w.heap.size) (h : TyRd w S d (.mk k n s l) [.int .i64 k, .int .i64 n, .string s, .slice A l.length c])
    (hsz : (pre (.mk k n s l)).length ≤ 1048576) : Calls Tryz.prog 29 #[.agg #[.int .i64 k, .int .i64 n, .string s, .slice A l.length c]] w (IntsMade w (varsT (.mk k n s l))) := by
  have HR := Lib.hid (renum_any d (.mk k n s l) w.heap.size 0 (w.alloc (.cells #[.int .i64 k, .int .i64 n, .string s, .slice A l.length c] 25)) _ (by rw [World.size_alloc]; exact fun b hb => hb) (boxed hS h) hsz)
  clear h hS hsz
  go_enter Tryz.func29, Tryz.ntmps29
  go_wp2_with fail
  refine HR.out.mono ?_
  rintro e w1 ⟨A5, c5, rfl, h1, h2, h3, h4, h8, h5⟩
  rw [World.size_alloc] at h8
  have H8 := Lib.hid h8
  clear h8
  have HM := Lib.hid (And.intro h2 (And.intro h3 (And.intro h4 h5)))
  clear h1 h2 h3 h4 h5
  go_wp2
  go_ret
  exact ⟨A5, c5, rfl, HM.out.1, HM.out.2.1, HM.out.2.2.1, fun ad e => Nat.le_trans (Nat.le_succ _) (H8.out ad e), below_then (below_new _ _) HM.out.2.2.2⟩
theorem place0_in {vs : List Int} (h : vs.length ≤ 1048576) (x : Int) : 0 ≤ place0 vs x ∧ place0 vs x ≤ 1048576 := by
  unfold place0
  split
  · rename_i hm
    have := List.idxOf_lt_length_of_mem hm
    omega
  · omega
theorem ints_after {w1 w3 : World} {A : Option Addr} {vs : List Int} {g : Nat} (h : IntsAt w1 w1.heap.size A vs) (hb : Below w1.heap.size w1 w3) (hg : g < w1.heap.size) (r : Array Value) (hne : ∀ ad : Addr, A = some ad → ad.block ≠ g) : IntsAt (w3.setRow g r) (w3.setRow g r).heap.size A vs := fun k x hx => by
  obtain ⟨ad, e, hB, hc⟩ := h k x hx
  refine ⟨ad, e, by rw [size_setRow]; have := hb.size; omega, ?_⟩
  rw [World.cell?_of_block (setRow_old (by rw [block_add]; exact hne ad e))]
  exact (hb.cell (by rw [block_add]; exact hB)).trans hc
/-- A type numbered anew, and its variables. -/
def CanonMade (w : World) (t : Tt) (e : Ending) (w' : World) : Prop :=
  ∃ A c A' c', e = .returned (.tuple #[.agg #[.int .i64 (canonT t).kind, .int .i64 (canonT t).num, .string (canonT t).name, .slice A (canonT t).args.length c], .slice A' (varsT t).length c']) ∧
    TyR.rd w' (New w.heap.size w') (canonT t) [.int .i64 (canonT t).kind, .int .i64 (canonT t).num, .string (canonT t).name, .slice A (canonT t).args.length c] ∧ IntsAt w' w'.heap.size A' (varsT t) ∧ (varsT t).length ≤ c' ∧ c' ≤ maxLen ∧ (∀ ad : Addr, A' = some ad → w.heap.size ≤ ad.block) ∧ Below w.heap.size w w'
theorem vars_le (t : Tt) : (varsT t).length ≤ (pre t).length := by
  have key : ∀ (l : List Tt) (s : List Int), (scan vstep s l).1.length ≤ s.length + l.length := by
    intro l
    induction l with
    | nil => intro s; simp [scan]
    | cons a r ih => intro s; rw [scan_yes vstep rfl]; have := ih (vstep s a).1; have := vstep_len s a; simp; omega
  simpa [varsT] using key (pre t) []
/-! ### Put -/
set_option maxRecDepth 100000 in
set_option maxHeartbeats 1000000 in
theorem put1_gives {w0 : World} {ls : List Tt} {Al : Option Addr} {cl B : Nat} {S : Nat → Prop} (hS : ∀ b, S b → b < w0.heap.size) (hR : Rows TyR 4 w0 S Al ls) (hc : w0.heap[B]? = some (.cells #[.slice Al ls.length cl] 23 (0, 0))) (hl : ls.length ≤ 1048576) :
    Gives w0 72 #[.pointer (some ⟨B, 0, none⟩)] (putG ls) := by
  refine ⟨fun args w => by kernel_rfl, fun w t A c B1 hb hB1 hBw ht hr => ?_⟩
  obtain ⟨k, n, s, l⟩ := t
  simp only [Tt.kind, Tt.num, Tt.name, Tt.args] at ht hr
  obtain ⟨A', c', hcs, hn, hl2, hs2, hrows⟩ := TyR.open_ hr
  simp only [Tt.kind, Tt.num, Tt.name, Tt.args, List.cons.injEq, Value.slice.injEq, and_true, true_and] at hcs hn hl2 hs2 hrows
  obtain ⟨rfl, rfl⟩ := hcs
  have hBl : B < w0.heap.size := (Array.getElem?_eq_some_iff.1 hc).1
  have HQ : Hid (∀ W', Below w0.heap.size w0 W' → W'.cell? ⟨B, 0, none⟩ = some (.slice Al ls.length cl)) := Lib.hid fun W' h => cell_one ((h.block B hBl).trans hc)
  have HR := Lib.hid hr
  have HB := Lib.hid hb
  have HS := Lib.hid hS
  have HRR := Lib.hid hR
  have HB1 := Lib.hid (And.intro hB1 hBw)
  have hzw : w0.heap.size ≤ w.heap.size := hb.size
  have hBW : B < w.heap.size := by omega
  have q1 := HQ.out w hb
  clear hr hb hc hS hR hl2 hs2 hrows HQ hBl hB1 hBw ht
  show Calls Tryz.prog 72 #[.agg #[.int .i64 k, .int .i64 n, .string s, .slice A l.length c], .pointer (some ⟨B, 0, none⟩)] w (Made w B1 (putG ls (.mk k n s l)))
  by_cases hcond : 0 ≤ n ∧ n < ls.length
  · obtain ⟨h0, h1⟩ := hcond
    obtain ⟨m, rfl⟩ := Int.eq_ofNat_of_zero_le h0
    have hm : m < ls.length := by omega
    have HE : Hid (putG ls (.mk k m s l) = ls[m]) := Lib.hid (by unfold putG; rw [dif_pos (by simp only [Tt.num]; omega)]; rfl)
    obtain ⟨b, o, cs, rfl, hSb, hr, hd⟩ := HRR.out.at_ hm
    rw [HE.out]
    generalize ls[m] = x at *
    obtain ⟨k2, n2, s2, l2⟩ := x
    obtain ⟨A2, c2, hcs, _⟩ := TyR.open_ hd
    simp only [Tt.kind, Tt.num, Tt.name, Tt.args] at hcs
    subst hcs
    obtain ⟨d0, hd0⟩ := hd
    have HW : Hid (Below w0.heap.size w0 ((w.alloc (.cells #[.int .i64 k, .int .i64 m, .string s, .slice A l.length c] 25)).alloc (.cells #[.int .i64 0, .int .i64 0, .string ⟨#[]⟩, .slice none 0 0] 25))) := Lib.hid (HB.out.trans ((((below_new w _).alloc (by simp) _)).mono hzw))
    have HC : Hid (Calls Tryz.prog 60 #[.agg #[.int .i64 k2, .int .i64 n2, .string s2, .slice A2 l2.length c2], .func (.func 61) #[] #[]] ((w.alloc (.cells #[.int .i64 k, .int .i64 m, .string s, .slice A l.length c] 25)).alloc (.cells #[.int .i64 0, .int .i64 0, .string ⟨#[]⟩, .slice none 0 0] 25)) (Made ((w.alloc (.cells #[.int .i64 k, .int .i64 m, .string s, .slice A l.length c] 25)).alloc (.cells #[.int .i64 0, .int .i64 0, .string ⟨#[]⟩, .slice none 0 0] 25)) (w.heap.size + 2) (.mk k2 n2 s2 l2))) := Lib.hid (by
      have := copied_any (itself_gives ((w.alloc (.cells #[.int .i64 k, .int .i64 m, .string s, .slice A l.length c] 25)).alloc (.cells #[.int .i64 0, .int .i64 0, .string ⟨#[]⟩, .slice none 0 0] 25))) d0 k2 n2 s2 l2 A2 c2 _ S (Below.refl _ _) (fun x hx => by have := HS.out x hx; have := HW.out.size; omega) (hd0.keep (Same.of_below HW.out HS.out))
      rw [cp_id, World.size_alloc, World.size_alloc] at this
      exact this)
    have HRow : Hid (((w.alloc (.cells #[.int .i64 k, .int .i64 m, .string s, .slice A l.length c] 25)).alloc (.cells #[.int .i64 0, .int .i64 0, .string ⟨#[]⟩, .slice none 0 0] 25)).rangeAt b (o + m * 4) [.int .i64 k2, .int .i64 n2, .string s2, .slice A2 l2.length c2]) := Lib.hid (range_same hr (Same.of_below HW.out HS.out) hSb)
    clear hr hd0 hSb
    go_enter Tryz.func72, Tryz.ntmps72
    go_wp2_with (refine wpList_load_mid rfl 25 _ rfl b (o + m * 4) rfl _ _ HRow.out Tryz.underlying25 rfl (tySize _ _ _ _) ?_)
    refine HC.out.mono ?_
    rintro e w3 ⟨A6, c6, rfl, h6, h7⟩
    have HN := Lib.hid (And.intro h6 h7)
    clear h6 h7
    have HRS : Hid (w3.heap[w.heap.size + 1]? = some (.cells #[.int .i64 0, .int .i64 0, .string ⟨#[]⟩, .slice none 0 0] 25 (0, 0))) := Lib.hid ((HN.out.2.block _ (by simp)).trans (heap_alloc2_new _ _ _))
    go_wp2_with (refine wpList_store_row rfl 25 _ _ rfl (w.heap.size + 1) _ rfl rfl 25 #[.int .i64 0, .int .i64 0, .string ⟨#[]⟩, .slice none 0 0] HRS.out (tySizeA _ _ _ _) rfl (one4 _ _ _ _ _ _) ?_)
    refine bodyPost_ret (v := .agg #[.int .i64 k2, .int .i64 n2, .string s2, .slice A6 l2.length c6]) (results_cell_row rfl _ _ (w.heap.size + 1) 25 _ (0, 0) _ rfl (setRow_row HRS.out) Tryz.underlying25 rfl (tySizeA _ _ _ _)) rfl ?_
    obtain ⟨f1, f2⟩ := boxed_end (w := w) (b := w.heap.size + 1) (r := #[.int .i64 k2, .int .i64 n2, .string s2, .slice A6 l2.length c6]) HN.out.1 (by omega) (by omega) (below_then ((below_new w _).alloc (by simp) _) (HN.out.2.mono (by simp)))
    exact ⟨A6, c6, rfl, TyR.more (fun b hb => ⟨by have := hb.1; have := HB1.out.2; omega, hb.2⟩) f1, f2⟩
  · have HE : Hid (putG ls (.mk k n s l) = .mk k n s l) := Lib.hid (by unfold putG; rw [dif_neg (by simpa only [Tt.num] using hcond)])
    rw [HE.out]
    have hfin : ∀ W', W' = ((w.alloc (.cells #[.int .i64 k, .int .i64 n, .string s, .slice A l.length c] 25)).alloc (.cells #[.int .i64 k, .int .i64 n, .string s, .slice A l.length c] 25)) → Made w B1 (.mk k n s l) (.returned (.agg #[.int .i64 k, .int .i64 n, .string s, .slice A l.length c])) W' := by
      rintro W' rfl
      have hb2 := (below_new w (.cells #[.int .i64 k, .int .i64 n, .string s, .slice A l.length c] 25)).alloc (by simp) (.cells #[.int .i64 k, .int .i64 n, .string s, .slice A l.length c] 25)
      exact ⟨A, c, rfl, TyR.more (fun b hb => ⟨hb.1, Nat.lt_of_lt_of_le hb.2 hb2.size⟩) (TyR.keep (Same.of_below hb2 fun b hb => hb.2) HR.out), hb2⟩
    have HFIN := Lib.hid hfin
    clear hfin HR HB HRR
    by_cases h0 : 0 ≤ n
    · have g1 : decide (0 ≤ n) = true := by simpa using h0
      have g2 : decide (n < ls.length) = false := by simp only [decide_eq_false_iff_not]; exact fun h => hcond ⟨h0, h⟩
      clear hcond h0
      go_enter Tryz.func72, Tryz.ntmps72
      go_wp2
      refine bodyPost_ret (v := .agg #[.int .i64 k, .int .i64 n, .string s, .slice A l.length c]) (results_cell_row rfl _ _ (w.heap.size + 1) 25 _ (0, 0) _ rfl (heap_alloc2_new _ _ _) Tryz.underlying25 rfl (tySizeA _ _ _ _)) rfl (HFIN.out _ rfl)
    · have g1 : decide (0 ≤ n) = false := by simpa using h0
      clear hcond h0
      go_enter Tryz.func72, Tryz.ntmps72
      go_wp2
      refine bodyPost_ret (v := .agg #[.int .i64 k, .int .i64 n, .string s, .slice A l.length c]) (results_cell_row rfl _ _ (w.heap.size + 1) 25 _ (0, 0) _ rfl (heap_alloc2_new _ _ _) Tryz.underlying25 rfl (tySizeA _ _ _ _)) rfl (HFIN.out _ rfl)
set_option maxRecDepth 100000 in
set_option maxHeartbeats 1000000 in
theorem put_any (d : Nat) (k n : Int) (s : ByteArray) (l : List Tt) (A : Option Addr) (c : Nat) (ls : List Tt) (Al : Option Addr) (cl : Nat) (w : World) (S : Nat → Prop) (hS : ∀ b, S b → b < w.heap.size) (h : TyRd w S d (.mk k n s l) [.int .i64 k, .int .i64 n, .string s, .slice A l.length c])
    (hR : Rows TyR 4 w S Al ls) (hl : ls.length ≤ 1048576) : Calls Tryz.prog 55 #[.agg #[.int .i64 k, .int .i64 n, .string s, .slice A l.length c], .slice Al ls.length cl] w (Made w w.heap.size (putT ls (.mk k n s l))) := by
  have HC : Hid (∃ w3, w3 = ((w.alloc (.cells #[.int .i64 k, .int .i64 n, .string s, .slice A l.length c] 25)).alloc (.cells #[.slice Al ls.length cl] 23)).alloc (.cells #[.int .i64 0, .int .i64 0, .string ⟨#[]⟩, .slice none 0 0] 25) ∧ Below w.heap.size w w3 ∧ w3.heap.size = w.heap.size + 3 ∧ w3.heap[w.heap.size + 2]? = some (.cells #[.int .i64 0, .int .i64 0, .string ⟨#[]⟩, .slice none 0 0] 25 (0, 0)) ∧
      Calls Tryz.prog 60 #[.agg #[.int .i64 k, .int .i64 n, .string s, .slice A l.length c], .func (.func 72) #[] #[.pointer (some ⟨w.heap.size + 1, 0, none⟩)]] w3 (Made w3 (w.heap.size + 3) (putT ls (.mk k n s l)))) := Lib.hid (by
    have hb : Below w.heap.size w (((w.alloc (.cells #[.int .i64 k, .int .i64 n, .string s, .slice A l.length c] 25)).alloc (.cells #[.slice Al ls.length cl] 23)).alloc (.cells #[.int .i64 0, .int .i64 0, .string ⟨#[]⟩, .slice none 0 0] 25)) := ((below_new w _).alloc (by simp) _).alloc (by simp; omega) _
    refine ⟨_, rfl, hb, by simp, heap_alloc3_new _ _ _ _, ?_⟩
    have hS3 : ∀ b, S b → b < (((w.alloc (.cells #[.int .i64 k, .int .i64 n, .string s, .slice A l.length c] 25)).alloc (.cells #[.slice Al ls.length cl] 23)).alloc (.cells #[.int .i64 0, .int .i64 0, .string ⟨#[]⟩, .slice none 0 0] 25)).heap.size := fun b hb => by have := hS b hb; simp; omega
    have hg := put1_gives (B := w.heap.size + 1) (cl := cl) hS3 (hR.keep (Same.of_below hb hS)) (heap_alloc3_mid _ _ _ _) hl
    have := copied_any hg d k n s l A c _ S (Below.refl _ _) hS3 (TyRd.keep (Same.of_below hb hS) _ _ _ h)
    rw [World.size_alloc, World.size_alloc, World.size_alloc] at this
    exact this)
  obtain ⟨w3, hw3, hb3, hz3, hr3, hc3⟩ := HC.out
  have HW := Lib.hid hw3
  have H3 := Lib.hid (And.intro hb3 (And.intro hz3 (And.intro hr3 hc3)))
  clear HC hw3 hb3 hz3 hr3 hc3 h hR hS
  go_enter Tryz.func55, Tryz.ntmps55
  go_wp2_with fail
  rw [← HW.out]
  refine H3.out.2.2.2.mono ?_
  rintro e w1 ⟨A6, c6, rfl, h6, h7⟩
  have HN := Lib.hid (And.intro h6 h7)
  clear h6 h7
  have HRS : Hid (w1.heap[w.heap.size + 2]? = some (.cells #[.int .i64 0, .int .i64 0, .string ⟨#[]⟩, .slice none 0 0] 25 (0, 0))) := Lib.hid ((HN.out.2.block _ (by have := H3.out.2.1; omega)).trans H3.out.2.2.1)
  go_wp2_with (refine wpList_store_row rfl 25 _ _ rfl (w.heap.size + 2) _ rfl rfl 25 #[.int .i64 0, .int .i64 0, .string ⟨#[]⟩, .slice none 0 0] HRS.out (tySizeA _ _ _ _) rfl (one4 _ _ _ _ _ _) ?_)
  refine bodyPost_ret (v := .agg #[.int .i64 (putT ls (.mk k n s l)).kind, .int .i64 (putT ls (.mk k n s l)).num, .string (putT ls (.mk k n s l)).name, .slice A6 (putT ls (.mk k n s l)).args.length c6]) (results_cell_row rfl _ _ (w.heap.size + 2) 25 _ (0, 0) _ rfl (setRow_row HRS.out) Tryz.underlying25 rfl (tySizeA _ _ _ _)) rfl ?_
  obtain ⟨f1, f2⟩ := boxed_end (w := w) (b := w.heap.size + 2) (r := #[.int .i64 (putT ls (.mk k n s l)).kind, .int .i64 (putT ls (.mk k n s l)).num, .string (putT ls (.mk k n s l)).name, .slice A6 (putT ls (.mk k n s l)).args.length c6]) HN.out.1 (by omega) (by omega) (below_then H3.out.1 HN.out.2)
  exact ⟨A6, c6, rfl, f1, f2⟩
end Go.Proofs.YtoopopjcojphaaaGreatDoor
/-
  THE REFERENCE's LIST OF NODES OF A TYPE.
-/
namespace Go.Proofs.YtoopopjcojphaaaGreatDoor
open Go.ChangeShapes Go.WideShapes Go.ChangeAt Go.RowKit
set_option linter.unusedVariables false
def zDec : List Value := [.int .i64 0, .int .i64 0, .string ⟨#[]⟩, .int .i64 0, .slice none 0 0, .slice none 0 0, .slice none 0 0]
def zPat : List Value := [.int .i64 0, .int .i64 0, .string ⟨#[]⟩, .int .i64 0, .slice none 0 0]
def zTy : List Value := [.int .i64 0, .int .i64 0, .string ⟨#[]⟩, .slice none 0 0]
def zFun : List Value := [.string ⟨#[]⟩, .int .i64 0] ++ zPat ++ zDec
def zCon : List Value := [.string ⟨#[]⟩, .int .i64 0, .bool false] ++ zTy
def ndHead (at_ : Int) : List Value := [.int .i64 4, .bool false, .int .i64 at_] ++ zDec ++ zDec ++ zPat
def ndTail : List Value := zFun ++ zCon
def ndZ : List Value := [.int .i64 0, .bool false, .int .i64 0] ++ zDec ++ zDec ++ zPat ++ zTy ++ ndTail
theorem ndInfo : (Tryz.prog.info? 103).map (fun i => (i.zero, i.size, i.bytes)) = some (some (.agg ndZ.toArray), 47, 656) := by kernel_rfl
/-- A node of a type. -/
def NdR (at_ : Int) : Reading Tt where
  rd w S t cs := ∃ tc, TyR.rd w S t tc ∧ cs = ndHead at_ ++ tc ++ ndTail
  keep h := fun ⟨tc, h1, h2⟩ => ⟨tc, TyR.keep h h1, h2⟩
  more h := fun ⟨tc, h1, h2⟩ => ⟨tc, TyR.more h h1, h2⟩
/-- What OfTy returns. -/
def Nodes (w : World) (S : Nat → Prop) (at_ : Int) (l : List Tt) (e : Ending) (w' : World) : Prop :=
  ∃ A c rows, e = .returned (.slice A l.length c) ∧ OwnIn (NdR at_) 47 w' S w.heap.size 103 (.slice A l.length c) l rows ∧ Below w.heap.size w w'
/-- At the head of a round. -/
structure NdAt (at_ : Int) (W : World) (S : Nat → Prop) (t : Tt) (tc : List Value) (l : List Tt) (v : Value) (rows : List (List Value)) (wr : World) : Prop where
  box : wr.heap[W.heap.size]? = some (.cells tc.toArray 25 (0, 0))
  own : OwnIn (NdR at_) 47 wr S (W.heap.size + 1) 103 v (t :: l) rows
  below : Below W.heap.size W wr
theorem NdAt.size {at_ : Int} {W : World} {S : Nat → Prop} {t : Tt} {tc : List Value} {l : List Tt} {v : Value} {rows : List (List Value)} {wr : World} (h : NdAt at_ W S t tc l v rows wr) : W.heap.size + 1 ≤ wr.heap.size := by
  have := (Array.getElem?_eq_some_iff.1 h.box).1; omega
theorem NdAt.cell {at_ : Int} {W : World} {S : Nat → Prop} {t : Tt} {x y z u : Value} {l : List Tt} {v : Value} {rows : List (List Value)} {wr w' : World} (h : NdAt at_ W S t [x, y, z, u] l v rows wr) (hb : Below wr.heap.size wr w') : w'.cell? ⟨W.heap.size, 3, none⟩ = some u := by
  have h1 := h.size
  rw [cell_of_row w' W.heap.size 3 _ _ _ ((hb.block _ (by omega)).trans h.box)]; rfl
theorem preL_len_le {l : List Tt} {k : Nat} (h : k < l.length) : (preL (l.take k)).length + (pre l[k]).length ≤ (preL l).length := by
  have e : l = l.take (k + 1) ++ l.drop (k + 1) := (List.take_append_drop _ _).symm
  have h1 := congrArg List.length (preL_take l k h)
  have h2 : (preL l).length = (preL (l.take (k + 1))).length + (preL (l.drop (k + 1))).length := by rw [← List.length_append, ← preL_append, ← e]
  simp at h1; omega
theorem nd_row {at_ : Int} {w : World} {S : Nat → Prop} {t : Tt} {cs : List Value} (h : (NdR at_).rd w S t cs) : cs.length = 47 ∧ ∀ u ∈ cs, u.oneCell' = true := by
  obtain ⟨tc, h1, rfl⟩ := h
  obtain ⟨A, c, rfl, _⟩ := TyR.open_ h1
  exact ⟨rfl, by simp [ndHead, ndTail, zDec, zPat, zFun, zCon, zTy, Value.oneCell']⟩
theorem nd_own {at_ : Int} {w : World} {S : Nat → Prop} {base : Nat} {v : Value} {l : List Tt} {rows : List (List Value)} {N : Nat} (h : OwnIn (NdR at_) 47 w S base 103 v l rows) (hN : l.length = N) : w.ownsRow base 103 47 v N rows.flatten := hN ▸ h.2.2.1
theorem nd_len {at_ : Int} {w : World} {S : Nat → Prop} {base : Nat} {v : Value} {l : List Tt} {rows : List (List Value)} {N : Nat} (h : OwnIn (NdR at_) 47 w S base 103 v l rows) (hN : l.length = N) : rows.flatten.length = N * 47 := by rw [flat_len h.2.1, h.1, hN]
theorem nd_cells {at_ : Int} {w : World} {S : Nat → Prop} {base g n c : Nat} {l : List Tt} {rows : List (List Value)} (h : OwnIn (NdR at_) 47 w S base 103 (.slice (some ⟨g, 0, none⟩) n c) l rows) : ∀ j u, rows.flatten[j]? = some u → w.cell? ((⟨g, 0, none⟩ : Addr).add j) = some u := h.2.2.1.cells rfl
theorem nd_one {at_ : Int} {w : World} {S : Nat → Prop} {base : Nat} {v : Value} {l : List Tt} {rows : List (List Value)} (h : OwnIn (NdR at_) 47 w S base 103 v l rows) : ∀ u ∈ rows.flatten, u.oneCell' = true := fun u hu => by
  obtain ⟨r, hr, hur⟩ := List.mem_flatten.1 hu
  obtain ⟨i, hi, rfl⟩ := List.getElem_of_mem hr
  have hl := h.1
  exact (nd_row (h.2.2.2 i l[i] rows[i] (List.getElem?_eq_getElem (by omega)) (List.getElem?_eq_getElem hi))).2 u hur
theorem nd_start {w : World} {S : Nat → Prop} {t : Tt} {tc : List Value} (at_ : Int) (hS : ∀ b, S b → b < w.heap.size) (h : TyR.rd w S t tc) :
    NdAt at_ w S t tc [] (.slice (some ⟨w.heap.size + 1, 0, none⟩) 1 1) [ndHead at_ ++ tc ++ ndTail] ((w.alloc (.cells tc.toArray 25)).alloc (.cells (ndHead at_ ++ tc ++ ndTail).toArray 103)) := by
  have hb : Below w.heap.size w ((w.alloc (.cells tc.toArray 25)).alloc (.cells (ndHead at_ ++ tc ++ ndTail).toArray 103)) := (below_new _ _).alloc (by simp) _
  obtain ⟨A, c, htc, _⟩ := TyR.open_ h
  refine ⟨heap_alloc2_old _ _ _, ⟨rfl, fun r hr => ?_, ⟨?_, .inr ⟨w.heap.size + 1, 1, _, rfl, Nat.le_refl _, heap_alloc2_new _ _ _, Nat.le_refl _, by decide, ?_, ?_⟩⟩, fun i a r ha hr => ?_⟩, hb⟩
  · rw [List.mem_singleton.1 hr, htc]; rfl
  · rw [htc]; rfl
  · rw [htc]; rfl
  · rw [htc]; rfl
  · cases i with
    | zero =>
      simp only [List.getElem?_cons_zero, Option.some.injEq] at ha hr
      subst ha; subst hr
      exact ⟨tc, TyR.keep (Same.of_below hb hS) h, rfl⟩
    | succ i => simp at hr
theorem nd_next {at_ : Int} {W wr w1 w2 : World} {S : Nat → Prop} {t : Tt} {tc : List Value} {l l' : List Tt} {v v' v3 : Value} {rows rows' : List (List Value)} (hS : ∀ b, S b → b < W.heap.size) (h : NdAt at_ W S t tc l v rows wr)
    (ho : OwnIn (NdR at_) 47 w1 S (W.heap.size + 1) 103 v (t :: l) rows) (h' : OwnIn (NdR at_) 47 w1 S wr.heap.size 103 v3 l' rows') (hb : Below wr.heap.size wr w1)
    (hown : w2.ownsRow (W.heap.size + 1) 103 47 v' ((t :: l).length + l'.length) (rows.flatten ++ rows'.flatten)) (hg : w1.grownBy w2 v.ownBlock) : NdAt at_ W S t tc (l ++ l') v' (rows ++ rows') w2 := by
  have hz := h.size
  have hz1 := hb.size
  have hne : ∀ k, k < W.heap.size + 1 → v.ownBlock ≠ some k := fun k hk e => by have := (ho.2.2.1.lt _ e).1; omega
  have hk : ∀ k, k < W.heap.size + 1 → w2.heap[k]? = wr.heap[k]? := fun k hlt => by rw [hg.block _ (by omega) (fun e => hne k hlt e.symm), hb.block _ (by omega)]
  refine ⟨(hk _ (by omega)).trans h.box, ?_, ⟨hg.os.trans (hb.os.trans h.below.os), hg.tape.trans (hb.tape.trans h.below.tape), hg.output.trans (hb.output.trans h.below.output), ?_, fun k hlt => ?_⟩⟩
  · exact ho.app h'.1 h'.2.1 h'.2.2.2 hown (Same.grown hg fun b hb => ⟨by have := hS b hb; omega, hne b (by have := hS b hb; omega)⟩)
  · have := h.below.size; have := hg.size; omega
  · rw [hk k (by omega), h.below.block k hlt]
theorem nd_end {at_ : Int} {W wr : World} {S : Nat → Prop} {t : Tt} {tc : List Value} {l : List Tt} {v : Value} {rows : List (List Value)} (h : NdAt at_ W S t tc l v rows wr) : OwnIn (NdR at_) 47 wr S W.heap.size 103 v (t :: l) rows ∧ Below W.heap.size W wr := by
  refine ⟨⟨h.own.1, h.own.2.1, ⟨h.own.2.2.1.1, ?_⟩, h.own.2.2.2⟩, h.below⟩
  rcases h.own.2.2.1.2 with h0 | ⟨g, cap, cur, hv, hg, rest⟩
  · exact .inl h0
  · exact .inr ⟨g, cap, cur, hv, by omega, rest⟩
set_option maxRecDepth 100000 in
set_option maxHeartbeats 1000000 in
theorem ofTy_any (at_ : Int) : ∀ (d : Nat) (k n : Int) (s : ByteArray) (l : List Tt) (A : Option Addr) (c : Nat) (w : World) (S : Nat → Prop), (∀ b, S b → b < w.heap.size) → (pre (.mk k n s l)).length ≤ 1048576 → TyRd w S d (.mk k n s l) [.int .i64 k, .int .i64 n, .string s, .slice A l.length c] →
      Calls Tryz.prog 58 #[.agg #[.int .i64 k, .int .i64 n, .string s, .slice A l.length c], .int .i64 at_] w (Nodes w S at_ (pre (.mk k n s l))) := by
  intro d
  induction d with
  | zero => intro k n s l A c w S _ _ h; exact h.elim
  | succ d ih =>
    intro k n s l A c w S hS hfew h
    have h0 := h
    obtain ⟨A', c', hcs, hn, hl, hs, hk⟩ := h
    simp only [List.cons.injEq, Value.slice.injEq, and_true, true_and] at hcs
    obtain ⟨rfl, rfl⟩ := hcs
    have HK := Lib.hid hk
    have HS := Lib.hid hS
    have HIH := Lib.hid ih
    have HF := Lib.hid hfew
    have HT := Lib.hid h0
    clear hk hS ih hfew h0
    go_enter Tryz.func58, Tryz.ntmps58
    go_wp2
    go_loopw [5, 6] (fun v z wr => ∃ (j : Nat) (rows : List (List Value)), j ≤ l.length ∧ z = .int .i64 j ∧ NdAt at_ w S (.mk k n s l) [.int .i64 k, .int .i64 n, .string s, .slice A l.length c] (preL (l.take j)) v rows wr) (fun _ z _ => l.length - (intOf z).toNat)
    case atStart =>
      have h := nd_start at_ HS.out ⟨_, HT.out⟩
      simp only [ndHead, ndTail, zDec, zPat, zFun, zCon, zTy, List.cons_append, List.nil_append] at h
      exact ⟨0, _, Nat.zero_le _, rfl, h⟩
    case round =>
      obtain ⟨j, rows, hj, rfl, hat⟩ := hrel
      have HAT := Lib.hid hat
      have hz := hat.size
      obtain ⟨A5, c5, hv, _⟩ := hat.own.form
      obtain ⟨N, hN⟩ : ∃ N, (Tt.mk k n s l :: preL (l.take j)).length = N := ⟨_, rfl⟩
      rw [hN] at hv
      subst hv
      have HNN := Lib.hid hN
      clear hat hN
      have q0 := HAT.out.cell (Below.refl _ _)
      by_cases hlt : j < l.length
      · obtain ⟨b, o, cs, rfl, hSb, hr, hd⟩ := HK.out j _ (List.getElem?_eq_getElem hlt)
        have HTK : Hid (preL (l.take (j + 1)) = preL (l.take j) ++ pre l[j]) := Lib.hid (preL_take l j hlt)
        have hle := preL_len_le (l := l) (k := j) hlt
        generalize l[j] = x at *
        obtain ⟨k2, n2, s2, l2⟩ := x
        cases d with
        | zero => exact hd.elim
        | succ d =>
        have hd0 := hd
        obtain ⟨A2, c2, rfl, _⟩ := hd
        have hwr := HAT.out.below
        have hfe := HF.out
        simp only [pre, List.length_cons] at hfe
        have HLE := Lib.hid hle
        have HR : Hid (wr.rangeAt b (o + j * 4) [.int .i64 k2, .int .i64 n2, .string s2, .slice A2 l2.length c2]) := Lib.hid (range_same hr (Same.of_below hwr HS.out) hSb)
        have HD : Hid (Calls Tryz.prog 58 #[.agg #[.int .i64 k2, .int .i64 n2, .string s2, .slice A2 l2.length c2], .int .i64 at_] wr (Nodes wr S at_ (pre (.mk k2 n2 s2 l2)))) := Lib.hid (HIH.out k2 n2 s2 l2 A2 c2 wr S (fun b hb => by have := HS.out b hb; omega) (by omega) (hd0.keep (Same.of_below hwr HS.out)))
        have HPL : Hid (0 < (pre (.mk k2 n2 s2 l2)).length) := Lib.hid (by simp [pre])
        have HLL : Hid ((Tt.mk k n s l :: preL (l.take j)).length + (pre (.mk k2 n2 s2 l2)).length ≤ 1048576) := Lib.hid (by simp only [List.length_cons]; omega)
        clear hr hd0 hwr hle hfe
        go_wp2_with (refine wpList_load_mid rfl 25 _ rfl b (o + j * 4) rfl _ _ HR.out Tryz.underlying25 rfl (tySize _ _ _ _) ?_)
        refine HD.out.mono ?_
        rintro e w1 ⟨A3, c3, rows3, rfl, ho3, hb1⟩
        obtain ⟨g3, c3', hv3, hg3, hg3', _⟩ := ho3.filled HPL.out
        injection hv3 with hA3 _ hc3
        subst hA3
        have HM := Lib.hid (And.intro ho3 hb1)
        have hz1 : wr.heap.size ≤ w1.heap.size := hb1.size
        have ho1 := HAT.out.own.below hb1 (fun b hb => by have := HS.out b hb; omega)
        have HO1 := Lib.hid ho1
        obtain ⟨i0, hi, hi0, hi1, hi2⟩ := info_parts ndInfo
        have HI := Lib.hid (And.intro hi (And.intro hi0 (And.intro hi1 hi2)))
        clear hi hi0 hi1 hi2 ho3 hb1 ho1 hc3
        generalize hM : (pre (.mk k2 n2 s2 l2)).length = M at *
        have HNM := Lib.hid (And.intro HNN.out hM)
        clear hM
        have hll := HLL.out
        rw [HNN.out] at hll
        go_wp2_with (at_builtin; refine wpList_append_own_at _ rfl (.tmp 18) (.tmp 25) 79 rfl (w.heap.size + 1) 103 i0 (.agg ndZ.toArray) 47 656 Tryz.underlying79 HI.out.1 HI.out.2.1 HI.out.2.2.1 HI.out.2.2.2 rfl (by decide) (.slice A5 N c5) N rows.flatten rfl (nd_own HO1.out HNM.out.1) ⟨g3, 0, none⟩ M c3 rows3.flatten rfl (nd_len HM.out.1 HNM.out.2) (nd_cells HM.out.1) (nd_one HM.out.1) ?c3 ?c4 ?c5 ?_)
        case c3 => unfold maxLen; omega
        case c4 => omega
        case c5 => omega
        intro v' w2 hown2 hgrow _ hv'
        obtain ⟨A4, n4, c4, rfl⟩ := own_slice hown2
        have HO := Lib.hid (And.intro hown2 (And.intro hgrow hv'))
        clear hown2 hgrow hv' hll
        go_wp2
        go_roundw
        case rel =>
          refine ⟨j + 1, rows ++ rows3, by omega, by go_num, ?_⟩
          rw [HTK.out]
          obtain ⟨e1, e2⟩ := HNM.out
          exact nd_next HS.out HAT.out HO1.out HM.out.1 HM.out.2 (by rw [e1, e2]; exact HO.out.1) HO.out.2.1
        case measure => simp [intOf]; omega
      · obtain rfl : j = l.length := by omega
        rw [List.take_length] at *
        go_wp2
        go_ret
        obtain ⟨f1, f2⟩ := nd_end HAT.out
        have e1 := HNN.out
        subst e1
        exact ⟨A5, c5, rows, by simp [pre], f1, f2⟩
end Go.Proofs.YtoopopjcojphaaaGreatDoor
/-
  THE REFERENCE's good, Formed, Size.
-/
namespace Go.Proofs.YtoopopjcojphaaaGreatDoor
open Go.ChangeShapes Go.WideShapes Go.ChangeAt Go.RowKit
set_option linter.unusedVariables false
theorem good_cells {w w1 : World} {x y z u : Value} (h : Below (w.alloc (.cells #[x, y, z, u] 25)).heap.size (w.alloc (.cells #[x, y, z, u] 25)) w1) : w1.cell? ⟨w.heap.size, 2, none⟩ = some z ∧ w1.cell? ⟨w.heap.size, 3, none⟩ = some u := by
  have hrow : w1.heap[w.heap.size]? = some (.cells #[x, y, z, u] 25 (0, 0)) := (h.block _ (by simp)).trans (heap_alloc_new _ _)
  exact ⟨by rw [cell_of_row w1 _ 2 _ _ _ hrow]; rfl, by rw [cell_of_row w1 _ 3 _ _ _ hrow]; rfl⟩
set_option maxRecDepth 100000 in
set_option maxHeartbeats 2000000 in
theorem good_any (k n : Int) (s : ByteArray) (l : List Tt) (A : Option Addr) (c : Nat) (w : World) (hs : s.size ≤ 1048576) (hl : l.length ≤ 1048576) (b : Bool) (hb : goodB (.mk k n s l) = b) :
    Calls Tryz.prog 73 #[.agg #[.int .i64 k, .int .i64 n, .string s, .slice A l.length c]] w fun e w' => e = .returned (.bool b) ∧ Below w.heap.size w w' := by
  have HB := Lib.hid hb
  have HE : Hid (goodB (.mk k n s l) = (if k = 1 then decide (0 ≤ n) && decide (s = ⟨#[]⟩) && decide (l.length = 0)
  else if k ≠ 2 ∨ n ≠ 0 then false
  else if s ≠ ⟨#[114, 101, 102]⟩ ∧ s ≠ ⟨#[45, 62]⟩ ∧ s ≠ ⟨#[42]⟩ ∧ lowB s = false then false
  else decide ((argsB s).1 ≤ l.length) && decide ((l.length : Int) ≤ (argsB s).2))) := Lib.hid rfl
  have HBN := Lib.hid (below_new w (.cells #[.int .i64 k, .int .i64 n, .string s, .slice A l.length c] 25))
  clear hb
  by_cases hk : k = 1
  case pos =>
    have q1 : (k == 1) = true := by simpa using hk
    have HK := Lib.hid hk
    clear hk
    go_enter Tryz.func73, Tryz.ntmps73
    go_wp2
    all_goals go_ret
    all_goals refine ⟨ret_bool ?_, HBN.out⟩
    all_goals rw [← HB.out, HE.out, if_pos HK.out]
    all_goals rw [show decide (s = ⟨#[]⟩) = decide (s.toList = []) from decide_eq_decide.2 (str_is s []).symm]
    all_goals first
      | (rw [Bool.eq_iff_iff]; simp [*]; done)
      | (rw [Bool.eq_iff_iff]; simp [*]; omega)
  have q1 : (k == 1) = false := by simpa using hk
  have HK := Lib.hid hk
  clear hk
  by_cases h2 : k = 2
  case neg =>
    have q2 : (k != 2) = true := by simpa using h2
    have HK2 := Lib.hid h2
    clear h2
    go_enter Tryz.func73, Tryz.ntmps73
    go_wp2
    go_ret
    exact ⟨ret_bool (by rw [← HB.out, HE.out, if_neg HK.out, if_pos (.inl HK2.out)]), HBN.out⟩
  have q2 : (k != 2) = false := by simpa using h2
  have HK2 := Lib.hid h2
  clear h2
  by_cases h3 : n = 0
  case neg =>
    have q3 : (n != 0) = true := by simpa using h3
    have HN := Lib.hid h3
    clear h3
    go_enter Tryz.func73, Tryz.ntmps73
    go_wp2
    go_ret
    exact ⟨ret_bool (by rw [← HB.out, HE.out, if_neg HK.out, if_pos (.inr HN.out)]), HBN.out⟩
  have q3 : (n != 0) = false := by simpa using h3
  have HN := Lib.hid h3
  clear h3
  have HE3 : Hid (goodB (.mk k n s l) = (if s ≠ ⟨#[114, 101, 102]⟩ ∧ s ≠ ⟨#[45, 62]⟩ ∧ s ≠ ⟨#[42]⟩ ∧ lowB s = false then false
  else decide ((argsB s).1 ≤ l.length) && decide ((l.length : Int) ≤ (argsB s).2))) := Lib.hid (by rw [HE.out, if_neg HK.out, if_neg (by rw [HK2.out, HN.out]; simp)])
  obtain ⟨lo, hi, har⟩ : ∃ lo hi, argsB s = (lo, hi) := ⟨_, _, rfl⟩
  have HAR := Lib.hid har
  have HE4 : Hid (¬ (s ≠ ⟨#[114, 101, 102]⟩ ∧ s ≠ ⟨#[45, 62]⟩ ∧ s ≠ ⟨#[42]⟩ ∧ lowB s = false) → goodB (.mk k n s l) = (decide (lo ≤ l.length) && decide ((l.length : Int) ≤ hi))) := Lib.hid fun h => by rw [HE3.out, if_neg h, HAR.out]
  clear har HE
  by_cases a1 : s = ⟨#[114, 101, 102]⟩
  case pos =>
    have q := str_yes a1
    have HS := Lib.hid a1
    clear a1
    go_enter Tryz.func73, Tryz.ntmps73
    go_wp2_with (go_at_call 85; refine (args_any s _).mono ?_; rw [HAR.out]; rintro e w' ⟨rfl, rfl⟩)
    all_goals go_ret
    all_goals refine ⟨ret_bool ?_, HBN.out⟩
    all_goals rw [← HB.out, HE4.out (by simp [HS.out])]
    all_goals first
      | (rw [Bool.eq_iff_iff]; simp [*]; done)
      | (rw [Bool.eq_iff_iff]; simp; omega)
  have a1' := str_no a1
  have Ha1 := Lib.hid a1
  clear a1
  by_cases a2 : s = ⟨#[45, 62]⟩
  case pos =>
    have q := str_yes a2
    have HS := Lib.hid a2
    clear a2
    go_enter Tryz.func73, Tryz.ntmps73
    go_wp2_with (go_at_call 85; refine (args_any s _).mono ?_; rw [HAR.out]; rintro e w' ⟨rfl, rfl⟩)
    all_goals go_ret
    all_goals refine ⟨ret_bool ?_, HBN.out⟩
    all_goals rw [← HB.out, HE4.out (by simp [HS.out])]
    all_goals first
      | (rw [Bool.eq_iff_iff]; simp [*]; done)
      | (rw [Bool.eq_iff_iff]; simp; omega)
  have a2' := str_no a2
  have Ha2 := Lib.hid a2
  clear a2
  by_cases a3 : s = ⟨#[42]⟩
  case pos =>
    have q := str_yes a3
    have HS := Lib.hid a3
    clear a3
    go_enter Tryz.func73, Tryz.ntmps73
    go_wp2_with (go_at_call 85; refine (args_any s _).mono ?_; rw [HAR.out]; rintro e w' ⟨rfl, rfl⟩)
    all_goals go_ret
    all_goals refine ⟨ret_bool ?_, HBN.out⟩
    all_goals rw [← HB.out, HE4.out (by simp [HS.out])]
    all_goals first
      | (rw [Bool.eq_iff_iff]; simp [*]; done)
      | (rw [Bool.eq_iff_iff]; simp; omega)
  have a3' := str_no a3
  have Ha3 := Lib.hid a3
  clear a3
  cases hlw : lowB s
  · have HLW := Lib.hid hlw
    clear hlw
    go_enter Tryz.func73, Tryz.ntmps73
    go_wp2_with (first | (go_at_call 84; refine (low_any s hs _).mono ?_; rw [HLW.out]; rintro e w1 ⟨rfl, hb1⟩; have HB1 := Lib.hid hb1; obtain ⟨z2, z3⟩ := good_cells hb1; clear hb1) | (go_at_call 85; refine (args_any s _).mono ?_; rw [HAR.out]; rintro e w' ⟨rfl, rfl⟩))
    go_ret
    exact ⟨ret_bool (by rw [← HB.out, HE3.out, if_pos ⟨Ha1.out, Ha2.out, Ha3.out, HLW.out⟩]), below_then HBN.out HB1.out⟩
  · have HLW := Lib.hid hlw
    clear hlw
    go_enter Tryz.func73, Tryz.ntmps73
    go_wp2_with (first | (go_at_call 84; refine (low_any s hs _).mono ?_; rw [HLW.out]; rintro e w1 ⟨rfl, hb1⟩; have HB1 := Lib.hid hb1; obtain ⟨z2, z3⟩ := good_cells hb1; clear hb1) | (go_at_call 85; refine (args_any s _).mono ?_; rw [HAR.out]; rintro e w' ⟨rfl, rfl⟩))
    all_goals go_ret
    all_goals refine ⟨ret_bool ?_, below_then HBN.out HB1.out⟩
    all_goals rw [← HB.out, HE4.out (by simp [HLW.out])]
    all_goals first
      | (rw [Bool.eq_iff_iff]; simp [*]; done)
      | (rw [Bool.eq_iff_iff]; simp; omega)
/-- The type's cells within a node's row. -/
theorem nd_part {at_ : Int} {w : World} {S : Nat → Prop} {b o : Nat} {cs : List Value} {t : Tt} (hr : w.rangeAt b o cs) (h : (NdR at_).rd w S t cs) : ∃ A c, w.rangeAt b (o + 22) [.int .i64 t.kind, .int .i64 t.num, .string t.name, .slice A t.args.length c] ∧ TyR.rd w S t [.int .i64 t.kind, .int .i64 t.num, .string t.name, .slice A t.args.length c] := by
  obtain ⟨tc, h1, rfl⟩ := h
  obtain ⟨A, c, rfl, _⟩ := TyR.open_ h1
  refine ⟨A, c, fun j v hv => ?_, h1⟩
  have := hr (22 + j) v (by
    rw [List.append_assoc, List.getElem?_append_right (by simp [ndHead, zDec, zPat])]
    rw [show 22 + j - (ndHead at_).length = j by simp [ndHead, zDec, zPat]]
    rw [List.getElem?_append_left (List.getElem?_eq_some_iff.1 hv).1]; exact hv)
  rwa [Nat.add_assoc]
/-- The bounds of a type that is read. -/
theorem TyR.bounds {w : World} {S : Nat → Prop} {t : Tt} {cs : List Value} (h : TyR.rd w S t cs) : (-9223372036854775808 ≤ t.num ∧ t.num ≤ 9223372036854775807) ∧ t.args.length ≤ 1048576 ∧ t.name.size ≤ 1048576 := by
  obtain ⟨A, c, _, h1, h2, h3, _⟩ := TyR.open_ h
  exact ⟨h1, h2, h3⟩
theorem all_stop {l : List Tt} {k : Nat} (hk : k < l.length) (h : goodB l[k] = false) : l.all goodB = false := by
  rw [Bool.eq_false_iff]; intro ha
  have := List.all_eq_true.1 ha _ (List.getElem_mem hk)
  rw [h] at this; cases this
set_option maxRecDepth 100000 in
set_option maxHeartbeats 1000000 in
theorem formed_any (d : Nat) (k n : Int) (s : ByteArray) (l : List Tt) (A : Option Addr) (c : Nat) (w : World) (S : Nat → Prop) (hS : ∀ b, S b → b < w.heap.size) (hfew : (pre (.mk k n s l)).length ≤ 1048576) (h : TyRd w S d (.mk k n s l) [.int .i64 k, .int .i64 n, .string s, .slice A l.length c]) :
    Calls Tryz.prog 57 #[.agg #[.int .i64 k, .int .i64 n, .string s, .slice A l.length c]] w fun e w' => e = .returned (.bool (formedT (.mk k n s l))) ∧ Below w.heap.size w w' := by
  have hb0 := below_new w (.cells #[.int .i64 k, .int .i64 n, .string s, .slice A l.length c] 25)
  have HC := Lib.hid (ofTy_any 0 d k n s l A c (w.alloc (.cells #[.int .i64 k, .int .i64 n, .string s, .slice A l.length c] 25)) S (fun b hb => by have := hS b hb; simp; omega) hfew (h.keep (Same.of_below hb0 hS)))
  have HB0 := Lib.hid hb0
  have HS := Lib.hid hS
  have HF : Hid (formedT (.mk k n s l) = (pre (.mk k n s l)).all goodB) := Lib.hid rfl
  have HFEW := Lib.hid hfew
  clear h hb0 hS hfew
  generalize pre (.mk k n s l) = P at *
  go_enter Tryz.func57, Tryz.ntmps57
  go_wp2_with fail
  refine HC.out.mono ?_
  rintro e w1 ⟨A1, c1, rows, rfl, ho, hb1⟩
  have hbw : Below w.heap.size w w1 := below_then HB0.out hb1
  have HR := Lib.hid (ho.rows)
  have HBW := Lib.hid hbw
  clear ho hb1 hbw
  have hPl := HFEW.out
  go_wp2
  go_loopw [4] (fun z wr => ∃ j : Nat, j ≤ P.length ∧ z = .int .i64 j ∧ (∀ i (hi : i < P.length), i < j → goodB P[i] = true) ∧ Below w1.heap.size w1 wr) (fun z _ => P.length - (intOf z).toNat)
  case atStart => exact ⟨0, Nat.zero_le _, rfl, fun i _ h => absurd h (Nat.not_lt_zero _), Below.refl _ _⟩
  case round =>
    obtain ⟨j, hj, rfl, hall, hb⟩ := hrel
    have HA := Lib.hid hall
    have HB := Lib.hid hb
    clear hall hb
    by_cases hlt : j < P.length
    · obtain ⟨b, o, cs, rfl, hSb, hr, hd⟩ := HR.out.at_ hlt
      obtain ⟨A2, c2, hr2, hd2⟩ := nd_part hr hd
      obtain ⟨_, hl2, hs2⟩ := TyR.bounds hd2
      have HE := Lib.hid (fun (v : Bool) (hv : v = goodB P[j]) => hv)
      have HG : Hid (∀ v : Bool, goodB P[j] = v → v = goodB P[j]) := Lib.hid fun v h => h.symm
      have HST : Hid (goodB P[j] = false → P.all goodB = false) := Lib.hid fun h => all_stop hlt h
      have HNX : Hid (goodB P[j] = true → ∀ i (hi : i < P.length), i < j + 1 → goodB P[i] = true) := Lib.hid fun h i hi hij => by
        by_cases e : i = j
        · subst e; exact h
        · exact HA.out i hi (by omega)
      generalize P[j] = x at *
      obtain ⟨k2, n2, s2, l2⟩ := x
      simp only [Tt.kind, Tt.num, Tt.name, Tt.args] at hr2 hl2 hs2
      have HRR : Hid (wr.rangeAt b (o + j * 47 + 22) [.int .i64 k2, .int .i64 n2, .string s2, .slice A2 l2.length c2]) := Lib.hid (range_keep hr2 HB.out (by
        rcases hSb with hx | hx
        · have h1 := HS.out b hx; have h2 := HBW.out.size; omega
        · exact hx.2))
      clear hr hd hr2 hd2 hSb HE
      cases hg : goodB (.mk k2 n2 s2 l2)
      · have HGG := Lib.hid hg
        clear hg
        go_wp2_with (first | (refine wpList_load_mid rfl 25 _ rfl b (o + j * 47 + 22) rfl _ _ HRR.out Tryz.underlying25 rfl (tySize _ _ _ _) ?_) | (go_at_call 73; refine (good_any k2 n2 s2 l2 A2 c2 _ hs2 hl2 _ HGG.out).mono ?_; rintro e w2 ⟨rfl, hb2⟩; have HB2 := Lib.hid hb2; clear hb2))
        go_ret
        exact ⟨ret_bool (by rw [HF.out, HST.out HGG.out]), below_then HBW.out (below_then HB.out HB2.out)⟩
      · have HGG := Lib.hid hg
        clear hg
        go_wp2_with (first | (refine wpList_load_mid rfl 25 _ rfl b (o + j * 47 + 22) rfl _ _ HRR.out Tryz.underlying25 rfl (tySize _ _ _ _) ?_) | (go_at_call 73; refine (good_any k2 n2 s2 l2 A2 c2 _ hs2 hl2 _ HGG.out).mono ?_; rintro e w2 ⟨rfl, hb2⟩; have HB2 := Lib.hid hb2; clear hb2))
        go_roundw
        case rel => exact ⟨j + 1, by omega, by go_num, HNX.out HGG.out, below_then HB.out HB2.out⟩
        case measure => simp [intOf]; omega
    · obtain rfl : j = P.length := by omega
      go_wp2
      go_ret
      refine ⟨ret_bool ?_, below_then HBW.out HB.out⟩
      rw [HF.out]; symm; rw [List.all_eq_true]
      intro x hx
      obtain ⟨i, hi, rfl⟩ := List.getElem_of_mem hx
      exact HA.out i hi hi
end Go.Proofs.YtoopopjcojphaaaGreatDoor
/-
  ty.Size, ty.fits, ty.Right.
-/
namespace Go.Proofs.YtoopopjcojphaaaGreatDoor
open Go.ChangeShapes Go.WideShapes Go.ChangeAt Go.RowKit
set_option linter.unusedVariables false
/-- A counter in block B (made by the call); nothing below it has turned. -/
def CountAt (w0 : World) (n : Nat) (w : World) : Prop := Below w0.heap.size w0 w ∧ w.heap[w0.heap.size]? = some (.cells #[.int .i64 n] 3 (0, 0))
theorem CountAt.size {w0 w : World} {n : Nat} (h : CountAt w0 n w) : w0.heap.size < w.heap.size := (Array.getElem?_eq_some_iff.1 h.2).1
theorem CountAt.set {w0 w : World} {n : Nat} (h : CountAt w0 n w) (m : Nat) : CountAt w0 m (w.setCell ⟨w0.heap.size, 0, none⟩ (.int .i64 m)) := by
  refine ⟨⟨h.1.os, h.1.tape, h.1.output, by simpa using h.1.size, fun k hk => ?_⟩, ?_⟩
  · rw [heap_setCell_other w _ _ _ (by simp; omega)]; exact h.1.block k hk
  · rw [heap_setCell_same w _ 0 _ _ _ h.2]; rfl
theorem CountAt.below {w0 w w' : World} {n : Nat} (h : CountAt w0 n w) (hb : Below w.heap.size w w') : CountAt w0 n w' := ⟨below_then h.1 hb, (hb.block _ h.size).trans h.2⟩
def cstep (n : Nat) (t : Tt) : Nat × Bool := (n + 1, true)
theorem size1_any (w0 w : World) (n : Nat) (hI : CountAt w0 n w) (hn : n + 1 ≤ 1048576) (b o : Nat) :
    Calls Tryz.prog 69 #[.pointer (some ⟨b, o, none⟩), .pointer (some ⟨w0.heap.size, 0, none⟩)] w fun e w' => e = .returned (.bool true) ∧ CountAt w0 (n + 1) w' := by
  have HI := Lib.hid hI
  have c1 := cell_one hI.2
  have c2 := frozen_of_row w w0.heap.size 0 _ _ hI.2
  clear hI
  go_enter Tryz.func69, Tryz.ntmps69
  go_wp2
  go_ret
  exact ⟨rfl, HI.out.set (n + 1)⟩
theorem scan_cstep : ∀ (l : List Tt) (n : Nat), scan cstep n l = (n + l.length, true)
  | [], n => rfl
  | t :: r, n => by rw [scan_yes cstep rfl, scan_cstep r]; simp [cstep]; omega
theorem size_asked (w : World) (S : Nat → Prop) (hS : ∀ b, S b → b < w.heap.size) : Asked w S (CountAt w) 69 #[.pointer (some ⟨w.heap.size, 0, none⟩)] cstep (fun n _ => n + 1 ≤ 1048576) :=
  ⟨fun s w' h => Same.of_below h.1 hS, fun args w => by kernel_rfl, fun n w' d t b o hI hg hP => size1_any w w' n hI hg b o⟩
theorem count_start (w : World) : CountAt w 0 (w.alloc (.cells #[.int .i64 0] 3)) := ⟨below_new _ _, heap_alloc_new _ _⟩
theorem size_any (d : Nat) (k n : Int) (s : ByteArray) (l : List Tt) (A : Option Addr) (c : Nat) (w : World) (S : Nat → Prop) (hS : ∀ b, S b → b < w.heap.size) (h : TyRd w S d (.mk k n s l) [.int .i64 k, .int .i64 n, .string s, .slice A l.length c])
    (hsz : (pre (.mk k n s l)).length ≤ 1048576) : Calls Tryz.prog 41 #[.agg #[.int .i64 k, .int .i64 n, .string s, .slice A l.length c]] w fun e w' => e = .returned (.int .i64 ((pre (.mk k n s l)).length : Nat)) ∧ Below w.heap.size w w' := by
  have HC : Hid (Calls Tryz.prog 48 #[.pointer (some ⟨w.heap.size, 0, none⟩), .func (.func 69) #[] #[.pointer (some ⟨w.heap.size + 1, 0, none⟩)]] ((w.alloc (.cells #[.int .i64 k, .int .i64 n, .string s, .slice A l.length c] 25)).alloc (.cells #[.int .i64 0] 3)) fun e w' => e = .returned (.bool true) ∧ CountAt (w.alloc (.cells #[.int .i64 k, .int .i64 n, .string s, .slice A l.length c] 25)) (pre (.mk k n s l)).length w') := Lib.hid (by
    have ha := size_asked (w.alloc (.cells #[.int .i64 k, .int .i64 n, .string s, .slice A l.length c] 25)) (Lt (w.heap.size + 1)) (by rw [World.size_alloc]; exact fun b hb => hb)
    have := all_any ha d (.mk k n s l) 0 _ w.heap.size 0 (count_start _) (goods_of cstep id 1048576 (fun s t => Nat.le_refl _) (fun _ _ h => h) _ _ (by simpa using hsz)) (boxed hS h)
    rw [scan_cstep, Nat.zero_add, World.size_alloc] at this
    exact this)
  clear h hS
  generalize hP : (pre (.mk k n s l)).length = P at *
  clear hP
  go_enter Tryz.func41, Tryz.ntmps41
  go_wp2_with fail
  refine HC.out.mono ?_
  rintro e w1 ⟨rfl, hc⟩
  have HX := Lib.hid hc
  have c1 := cell_one hc.2
  rw [World.size_alloc] at c1
  clear hc
  go_wp2
  go_ret
  exact ⟨rfl, below_then (below_new _ _) HX.out.1⟩
/-! ### fits -/
/-- ty.isLower answers as the reference does. -/
def LowIs (s : ByteArray) : Prop := ∀ w : World, Calls Tryz.prog 70 #[.string s] w fun e w' => e = .returned (.bool (lowB s)) ∧ Below w.heap.size w w'
def tblB (s : ByteArray) : Prop := s = ⟨#[105, 110, 116]⟩ ∨ s = ⟨#[98, 111, 111, 108]⟩ ∨ s = ⟨#[117, 110, 105, 116]⟩ ∨ s = ⟨#[101, 120, 110]⟩ ∨ s = ⟨#[114, 101, 102]⟩ ∨ s = ⟨#[45, 62]⟩ ∨ s = ⟨#[42]⟩
def LowOk (t : Tt) : Prop := t.kind = 2 → t.num = 0 → ¬ tblB t.name → LowIs t.name
set_option maxRecDepth 100000 in
set_option maxHeartbeats 2000000 in
theorem fits_any (t : Tt) (A : Option Addr) (c b o : Nat) (w : World) (hN : Node w b o t A c) (hl : t.args.length ≤ 1048576) (hb : b < w.heap.size) (hlow : LowOk t) (v : Bool) (hv : goodB t = v) :
    Calls Tryz.prog 50 #[.pointer (some ⟨b, o, none⟩)] w fun e w' => e = .returned (.bool v) ∧ Below w.heap.size w w' := by
  obtain ⟨k, n, s, l⟩ := t
  obtain ⟨c0, c1, c2, c3⟩ := hN
  simp only [Tt.kind, Tt.num, Tt.name, Tt.args] at c0 c1 c2 c3 hl
  have HB := Lib.hid hv
  have HE : Hid (goodB (.mk k n s l) = (if k = 1 then decide (0 ≤ n) && decide (s = ⟨#[]⟩) && decide (l.length = 0)
  else if k ≠ 2 ∨ n ≠ 0 then false
  else if s ≠ ⟨#[114, 101, 102]⟩ ∧ s ≠ ⟨#[45, 62]⟩ ∧ s ≠ ⟨#[42]⟩ ∧ lowB s = false then false
  else decide ((argsB s).1 ≤ l.length) && decide ((l.length : Int) ≤ (argsB s).2))) := Lib.hid rfl
  have HLOW := Lib.hid hlow
  clear hv hlow
  by_cases hk : k = 1
  case pos =>
    have q1 : (k == 1) = true := by simpa using hk
    have HK := Lib.hid hk
    clear hk
    go_enter Tryz.func50, Tryz.ntmps50
    go_wp2
    all_goals go_ret
    all_goals refine ⟨ret_bool ?_, Below.refl _ _⟩
    all_goals rw [← HB.out, HE.out, if_pos HK.out]
    all_goals rw [show decide (s = ⟨#[]⟩) = decide (s.toList = []) from decide_eq_decide.2 (str_is s []).symm]
    all_goals first
      | (rw [Bool.eq_iff_iff]; simp [*]; done)
      | (rw [Bool.eq_iff_iff]; simp [*]; omega)
  have q1 : (k == 1) = false := by simpa using hk
  have HK := Lib.hid hk
  clear hk
  by_cases h2 : k = 2
  case neg =>
    have q2 : (k != 2) = true := by simpa using h2
    have HK2 := Lib.hid h2
    clear h2
    go_enter Tryz.func50, Tryz.ntmps50
    go_wp2
    go_ret
    exact ⟨ret_bool (by rw [← HB.out, HE.out, if_neg HK.out, if_pos (.inl HK2.out)]), Below.refl _ _⟩
  have q2 : (k != 2) = false := by simpa using h2
  have HK2 := Lib.hid h2
  clear h2
  by_cases h3 : n = 0
  case neg =>
    have q3 : (n != 0) = true := by simpa using h3
    have HN := Lib.hid h3
    clear h3
    go_enter Tryz.func50, Tryz.ntmps50
    go_wp2
    go_ret
    exact ⟨ret_bool (by rw [← HB.out, HE.out, if_neg HK.out, if_pos (.inr HN.out)]), Below.refl _ _⟩
  have q3 : (n != 0) = false := by simpa using h3
  have HN := Lib.hid h3
  clear h3
  have HE3 : Hid (goodB (.mk k n s l) = (if s ≠ ⟨#[114, 101, 102]⟩ ∧ s ≠ ⟨#[45, 62]⟩ ∧ s ≠ ⟨#[42]⟩ ∧ lowB s = false then false
  else decide ((argsB s).1 ≤ l.length) && decide ((l.length : Int) ≤ (argsB s).2))) := Lib.hid (by rw [HE.out, if_neg HK.out, if_neg (by rw [HK2.out, HN.out]; simp)])
  clear HE
  by_cases a1 : s = ⟨#[105, 110, 116]⟩
  case pos =>
    have q := str_yes a1
    have HS : Hid (goodB (.mk k n s l) = (decide ((0 : Int) ≤ l.length) && decide ((l.length : Int) ≤ 0))) := Lib.hid (by rw [HE3.out, a1, if_neg (by decide)]; rfl)
    clear a1
    go_enter Tryz.func50, Tryz.ntmps50
    go_wp2
    all_goals go_ret
    all_goals refine ⟨ret_bool ?_, Below.refl _ _⟩
    all_goals rw [← HB.out, HS.out]
    all_goals first
      | (rw [Bool.eq_iff_iff]; simp [*]; done)
      | (rw [Bool.eq_iff_iff]; simp; omega)
  have a1' := str_no a1
  have Ha1 := Lib.hid a1
  clear a1
  by_cases a2 : s = ⟨#[98, 111, 111, 108]⟩
  case pos =>
    have q := str_yes a2
    have HS : Hid (goodB (.mk k n s l) = (decide ((0 : Int) ≤ l.length) && decide ((l.length : Int) ≤ 0))) := Lib.hid (by rw [HE3.out, a2, if_neg (by decide)]; rfl)
    clear a2
    go_enter Tryz.func50, Tryz.ntmps50
    go_wp2
    all_goals go_ret
    all_goals refine ⟨ret_bool ?_, Below.refl _ _⟩
    all_goals rw [← HB.out, HS.out]
    all_goals first
      | (rw [Bool.eq_iff_iff]; simp [*]; done)
      | (rw [Bool.eq_iff_iff]; simp; omega)
  have a2' := str_no a2
  have Ha2 := Lib.hid a2
  clear a2
  by_cases a3 : s = ⟨#[117, 110, 105, 116]⟩
  case pos =>
    have q := str_yes a3
    have HS : Hid (goodB (.mk k n s l) = (decide ((0 : Int) ≤ l.length) && decide ((l.length : Int) ≤ 0))) := Lib.hid (by rw [HE3.out, a3, if_neg (by decide)]; rfl)
    clear a3
    go_enter Tryz.func50, Tryz.ntmps50
    go_wp2
    all_goals go_ret
    all_goals refine ⟨ret_bool ?_, Below.refl _ _⟩
    all_goals rw [← HB.out, HS.out]
    all_goals first
      | (rw [Bool.eq_iff_iff]; simp [*]; done)
      | (rw [Bool.eq_iff_iff]; simp; omega)
  have a3' := str_no a3
  have Ha3 := Lib.hid a3
  clear a3
  by_cases a4 : s = ⟨#[101, 120, 110]⟩
  case pos =>
    have q := str_yes a4
    have HS : Hid (goodB (.mk k n s l) = (decide ((0 : Int) ≤ l.length) && decide ((l.length : Int) ≤ 0))) := Lib.hid (by rw [HE3.out, a4, if_neg (by decide)]; rfl)
    clear a4
    go_enter Tryz.func50, Tryz.ntmps50
    go_wp2
    all_goals go_ret
    all_goals refine ⟨ret_bool ?_, Below.refl _ _⟩
    all_goals rw [← HB.out, HS.out]
    all_goals first
      | (rw [Bool.eq_iff_iff]; simp [*]; done)
      | (rw [Bool.eq_iff_iff]; simp; omega)
  have a4' := str_no a4
  have Ha4 := Lib.hid a4
  clear a4
  by_cases a5 : s = ⟨#[114, 101, 102]⟩
  case pos =>
    have q := str_yes a5
    have HS : Hid (goodB (.mk k n s l) = (decide ((1 : Int) ≤ l.length) && decide ((l.length : Int) ≤ 1))) := Lib.hid (by rw [HE3.out, a5, if_neg (by decide)]; rfl)
    clear a5
    go_enter Tryz.func50, Tryz.ntmps50
    go_wp2
    all_goals go_ret
    all_goals refine ⟨ret_bool ?_, Below.refl _ _⟩
    all_goals rw [← HB.out, HS.out]
    all_goals first
      | (rw [Bool.eq_iff_iff]; simp [*]; done)
      | (rw [Bool.eq_iff_iff]; simp; omega)
  have a5' := str_no a5
  have Ha5 := Lib.hid a5
  clear a5
  by_cases a6 : s = ⟨#[45, 62]⟩
  case pos =>
    have q := str_yes a6
    have HS : Hid (goodB (.mk k n s l) = (decide ((2 : Int) ≤ l.length) && decide ((l.length : Int) ≤ 2))) := Lib.hid (by rw [HE3.out, a6, if_neg (by decide)]; rfl)
    clear a6
    go_enter Tryz.func50, Tryz.ntmps50
    go_wp2
    all_goals go_ret
    all_goals refine ⟨ret_bool ?_, Below.refl _ _⟩
    all_goals rw [← HB.out, HS.out]
    all_goals first
      | (rw [Bool.eq_iff_iff]; simp [*]; done)
      | (rw [Bool.eq_iff_iff]; simp; omega)
  have a6' := str_no a6
  have Ha6 := Lib.hid a6
  clear a6
  by_cases a7 : s = ⟨#[42]⟩
  case pos =>
    have q := str_yes a7
    have HS : Hid (goodB (.mk k n s l) = (decide ((2 : Int) ≤ l.length) && decide ((l.length : Int) ≤ 8))) := Lib.hid (by rw [HE3.out, a7, if_neg (by decide)]; rfl)
    clear a7
    go_enter Tryz.func50, Tryz.ntmps50
    go_wp2
    all_goals go_ret
    all_goals refine ⟨ret_bool ?_, Below.refl _ _⟩
    all_goals rw [← HB.out, HS.out]
    all_goals first
      | (rw [Bool.eq_iff_iff]; simp [*]; done)
      | (rw [Bool.eq_iff_iff]; simp; omega)
  have a7' := str_no a7
  have Ha7 := Lib.hid a7
  clear a7
  have HL : Hid (LowIs s) := Lib.hid (HLOW.out HK2.out HN.out (by show ¬ tblB s; unfold tblB; simp [Ha1.out, Ha2.out, Ha3.out, Ha4.out, Ha5.out, Ha6.out, Ha7.out]))
  have HE5 : Hid (goodB (.mk k n s l) = (lowB s && decide ((l.length : Int) ≤ 8))) := Lib.hid (by
    have ha : argsB s = (0, 8) := by unfold argsB; rw [if_neg (by simp [Ha1.out, Ha2.out, Ha3.out, Ha4.out]), if_neg Ha5.out, if_neg Ha6.out, if_neg Ha7.out]
    rw [HE3.out, ha]
    cases lowB s
    · rw [if_pos ⟨Ha5.out, Ha6.out, Ha7.out, rfl⟩]; rfl
    · rw [if_neg (by simp)]; simp)
  by_cases h8 : l.length ≤ 8
  · have q8 : (l.length : Int) ≤ 8 := by omega
    go_enter Tryz.func50, Tryz.ntmps50
    go_wp2_with (go_at_call 70; refine (HL.out _).mono ?_; rintro e w1 ⟨rfl, hb1⟩; have HB1 := Lib.hid hb1; clear hb1)
    go_ret
    exact ⟨ret_bool (by rw [← HB.out, HE5.out, decide_eq_true q8, Bool.and_true]), HB1.out⟩
  · have q8 : (8 : Int) < l.length := by omega
    go_enter Tryz.func50, Tryz.ntmps50
    go_wp2
    go_ret
    exact ⟨ret_bool (by rw [← HB.out, HE5.out]; simp; omega), Below.refl _ _⟩
/-! ### Right -/
def rstep (n : Nat) (t : Tt) : Nat × Bool := (n + 1, decide (n + 1 ≤ 256) && goodB t)
set_option maxRecDepth 100000 in
theorem right1_any (w0 w : World) (n : Nat) (hI : CountAt w0 n w) (hn : n + 1 ≤ 1048576) (S : Nat → Prop) (hS : ∀ b, S b → b < w0.heap.size) (d : Nat) (t : Tt) (b o : Nat) (hP : TyP w S d t b o) (hlow : LowOk t) :
    Calls Tryz.prog 49 #[.pointer (some ⟨b, o, none⟩), .pointer (some ⟨w0.heap.size, 0, none⟩)] w fun e w' => e = .returned (.bool (rstep n t).2) ∧ CountAt w0 (rstep n t).1 w' := by
  obtain ⟨A, c, d', rfl, hN, hnn, hlen, hnm, hSb, _⟩ := hP.node
  have hbl := hS b hSb
  have HI := Lib.hid hI
  have c1 := cell_one hI.2
  have c2 := frozen_of_row w w0.heap.size 0 _ _ hI.2
  have hz := hI.size
  have HV : Hid ((rstep n t).2 = (decide (n + 1 ≤ 256) && goodB t) ∧ (rstep n t).1 = n + 1) := Lib.hid ⟨rfl, rfl⟩
  by_cases h6 : n + 1 ≤ 256
  · have q : ((n : Int) + 1 ≤ 256) := by omega
    have hset := hI.set (n + 1)
    have HF : Hid (Calls Tryz.prog 50 #[.pointer (some ⟨b, o, none⟩)] (w.setCell ⟨w0.heap.size, 0, none⟩ (.int .i64 ((n + 1 : Nat) : Int))) fun e w' => e = .returned (.bool (goodB t)) ∧ Below w.heap.size (w.setCell ⟨w0.heap.size, 0, none⟩ (.int .i64 ((n + 1 : Nat) : Int))) w') := Lib.hid (by
      have hs : Same S w (w.setCell ⟨w0.heap.size, 0, none⟩ (.int .i64 ((n + 1 : Nat) : Int))) := fun x y hx => World.cell?_of_block (a := ⟨x, y, none⟩) (heap_setCell_other w _ _ _ (by have := hS x hx; show x ≠ _; simp; omega))
      have := fits_any t A c b o _ (hN.keep hs hSb) hlen (by simp; omega) hlow (goodB t) rfl
      rwa [World.size_setCell] at this)
    have HSET := Lib.hid hset
    clear hI hN hset hP hlow
    go_enter Tryz.func49, Tryz.ntmps49
    go_wp2_with (go_at_call 50; refine (HF.out).mono ?_; rintro e w1 ⟨rfl, hb1⟩; have HB1 := Lib.hid hb1; clear hb1)
    go_ret
    exact ⟨ret_bool (by rw [HV.out.1]; simp [h6]), by rw [HV.out.2]; exact HSET.out.below (by rw [World.size_setCell]; exact HB1.out)⟩
  · have q : (256 < (n : Int) + 1) := by omega
    clear hI hN hP hlow
    go_enter Tryz.func49, Tryz.ntmps49
    go_wp2
    go_ret
    exact ⟨ret_bool (by rw [HV.out.1]; simp [h6]), by rw [HV.out.2]; exact HI.out.set (n + 1)⟩
theorem goods_right (Q : Tt → Prop) : ∀ (l : List Tt) (n : Nat), n + l.length ≤ 1048576 → (∀ u ∈ l, Q u) → goods rstep (fun n t => n + 1 ≤ 1048576 ∧ Q t) n l
  | [], _, _, _ => trivial
  | t :: r, n, h, hq => ⟨⟨by simp at h; omega, hq t (List.mem_cons_self ..)⟩, fun _ => goods_right Q r (n + 1) (by simp at h; omega) fun u hu => hq u (List.mem_cons_of_mem _ hu)⟩
theorem scan_rstep : ∀ (l : List Tt) (n : Nat), n ≤ 256 → (scan rstep n l).2 = (decide (n + l.length ≤ 256) && l.all goodB)
  | [], n, h => by simp [scan, h]
  | t :: r, n, h => by
    by_cases h1 : n + 1 ≤ 256
    · cases hg : goodB t
      · rw [scan_no rstep (by simp [rstep, hg])]; simp [hg]
      · rw [scan_yes rstep (by simp [rstep, hg, h1]), show (rstep n t).1 = n + 1 from rfl, scan_rstep r (n + 1) h1]
        simp [hg]; congr 1; rw [decide_eq_decide]; omega
    · rw [scan_no rstep (by simp [rstep, h1])]
      simp; intro h2; omega
theorem right_asked (w : World) (S : Nat → Prop) (hS : ∀ b, S b → b < w.heap.size) : Asked w S (CountAt w) 49 #[.pointer (some ⟨w.heap.size, 0, none⟩)] rstep (fun n t => n + 1 ≤ 1048576 ∧ LowOk t) :=
  ⟨fun s w' h => Same.of_below h.1 hS, fun args w => by kernel_rfl, fun n w' d t b o hI hg hP => right1_any w w' n hI hg.1 S hS d t b o hP hg.2⟩
def rightT (t : Tt) : Bool := decide ((pre t).length ≤ 256) && formedT t
theorem right_any (d : Nat) (k n : Int) (s : ByteArray) (l : List Tt) (A : Option Addr) (c : Nat) (w : World) (S : Nat → Prop) (hS : ∀ b, S b → b < w.heap.size) (h : TyRd w S d (.mk k n s l) [.int .i64 k, .int .i64 n, .string s, .slice A l.length c])
    (hsz : (pre (.mk k n s l)).length ≤ 1048576) (hlow : ∀ u ∈ pre (.mk k n s l), LowOk u) : Calls Tryz.prog 28 #[.agg #[.int .i64 k, .int .i64 n, .string s, .slice A l.length c]] w fun e w' => e = .returned (.bool (rightT (.mk k n s l))) ∧ Below w.heap.size w w' := by
  have HC : Hid (Calls Tryz.prog 48 #[.pointer (some ⟨w.heap.size, 0, none⟩), .func (.func 49) #[] #[.pointer (some ⟨w.heap.size + 1, 0, none⟩)]] ((w.alloc (.cells #[.int .i64 k, .int .i64 n, .string s, .slice A l.length c] 25)).alloc (.cells #[.int .i64 0] 3)) fun e w' => e = .returned (.bool (rightT (.mk k n s l))) ∧ ∃ m, CountAt (w.alloc (.cells #[.int .i64 k, .int .i64 n, .string s, .slice A l.length c] 25)) m w') := Lib.hid (by
    have ha := right_asked (w.alloc (.cells #[.int .i64 k, .int .i64 n, .string s, .slice A l.length c] 25)) (Lt (w.heap.size + 1)) (by rw [World.size_alloc]; exact fun b hb => hb)
    have := all_any ha d (.mk k n s l) 0 _ w.heap.size 0 (count_start _) (goods_right LowOk _ 0 (by omega) hlow) (boxed hS h)
    rw [scan_rstep _ _ (by omega), Nat.zero_add, World.size_alloc] at this
    exact this.mono fun e w' h => ⟨h.1, _, h.2⟩)
  clear h hS hlow
  go_enter Tryz.func28, Tryz.ntmps28
  go_wp2_with fail
  refine HC.out.mono ?_
  rintro e w1 ⟨rfl, m, hc⟩
  have HX := Lib.hid hc
  clear hc
  go_wp2
  go_ret
  exact ⟨rfl, below_then (below_new _ _) HX.out.1⟩
end Go.Proofs.YtoopopjcojphaaaGreatDoor
/-
  THE CONTRACTS OF ty AND OF THE REFERENCE, ON VALUES THAT READ AS TYPES.
-/
namespace Go.Proofs.YtoopopjcojphaaaGreatDoor
open Go.ChangeShapes Go.WideShapes Go.ChangeAt Go.RowKit
set_option linter.unusedVariables false
theorem range_row {w : World} {g : Nat} {t : TypeId} {cs : List Value} {fr : Nat × Nat} (h : w.heap[g]? = some (.cells cs.toArray t fr)) : w.rangeAt g 0 cs := fun j u hj => by
  rw [Nat.zero_add, cell_of_row w g j _ _ _ h]; simpa using hj
theorem lt_of_cells {w : World} {g : Nat} {o : Obj} (h : w.heap[g]? = some o) : g < w.heap.size := (Array.getElem?_eq_some_iff.1 h).1
theorem ints_lt {w : World} {B : Nat} {A : Option Addr} {x : Int} {l : List Int} (h : IntsAt w B A (x :: l)) (ad : Addr) (e : A = some ad) : ad.block < B := by
  obtain ⟨ad', e', hb, _⟩ := h 0 x rfl
  rw [e] at e'; cases e'; exact hb
/-- The value v reads as the type t. -/
def Val (w : World) (t : Tt) (v : Value) : Prop := ∃ A c, v = .agg #[.int .i64 t.kind, .int .i64 t.num, .string t.name, .slice A t.args.length c] ∧ TyR.rd w (Lt w.heap.size) t [.int .i64 t.kind, .int .i64 t.num, .string t.name, .slice A t.args.length c]
theorem Val.on {w w' : World} {t : Tt} {v : Value} (h : Val w t v) (hb : Below w.heap.size w w') : Val w' t v := by
  obtain ⟨A, c, rfl, h⟩ := h
  exact ⟨A, c, rfl, TyR.more (S := Lt w.heap.size) (fun b hB => Nat.lt_of_lt_of_le hB hb.size) (TyR.keep (Same.lt hb) h)⟩
theorem val_leaf (w : World) (k n : Int) (s : ByteArray) (hn : -9223372036854775808 ≤ n ∧ n ≤ 9223372036854775807) (hs : s.size ≤ 1048576) : Val w (.mk k n s []) (.agg #[.int .i64 k, .int .i64 n, .string s, .slice none 0 0]) :=
  ⟨none, 0, rfl, TyR.mk hn (by simp) hs Rows.nil⟩
/-- A type comes back. -/
def Gave (w : World) (t : Tt) (e : Ending) (w' : World) : Prop := ∃ v, e = .returned v ∧ Val w' t v ∧ Below w.heap.size w w'
theorem Made.gave {w : World} {B : Nat} {t : Tt} {e : Ending} {w' : World} (h : Made w B t e w') : Gave w t e w' := by
  obtain ⟨A, c, rfl, h1, h2⟩ := h
  exact ⟨_, rfl, ⟨A, c, rfl, TyR.more (fun b hb => hb.2) h1⟩, h2⟩
section
variable {w : World} {a b : Tt} {x y : Value}
theorem of_val (s : ByteArray) (l : List Tt) (A : Option Addr) (c : Nat) (hs : s.size ≤ 1048576) (hl : l.length ≤ 1048576) (h : Rows TyR 4 w (Lt w.heap.size) A l) : Calls Tryz.prog 37 #[.string s, .slice A l.length c] w (Gave w (.mk 2 0 s l)) :=
  (of_any s l A c w _ (fun _ h => h) hs hl h).mono fun _ _ h => h.gave
theorem of_nil (s : ByteArray) (hs : s.size ≤ 1048576) : Calls Tryz.prog 37 #[.string s, .slice none 0 0] w (Gave w (.mk 2 0 s [])) := of_val s [] none 0 hs (by simp) Rows.nil
theorem same_val (ha : Val w a x) (hb : Val w b y) : Calls Tryz.prog 45 #[x, y] w fun e w' => e = .returned (.bool (sameT a b)) ∧ Below w.heap.size w w' := by
  obtain ⟨A, c, rfl, d, ha⟩ := ha
  obtain ⟨A', c', rfl, hb⟩ := hb
  obtain ⟨k, n, s, l⟩ := a
  obtain ⟨k', n', s', l'⟩ := b
  exact same_any d k n s l A c k' n' s' l' A' c' w _ (fun _ h => h) ha hb
theorem same_self (ha : Val w a x) (hb : Val w a y) : Calls Tryz.prog 45 #[x, y] w fun e w' => e = .returned (.bool true) ∧ Below w.heap.size w w' := by
  have := same_val ha hb
  rwa [sameT_refl] at this
theorem rsame5_val (ha : Val w a x) (hb : Val w b y) : Calls Tryz.prog 44 #[x, y] w fun e w' => e = .returned (.bool (sameT a b)) ∧ Below w.heap.size w w' := by
  obtain ⟨A, c, rfl, d, ha⟩ := ha
  obtain ⟨A', c', rfl, hb⟩ := hb
  obtain ⟨k, n, s, l⟩ := a
  obtain ⟨k', n', s', l'⟩ := b
  exact rsame_any d k n s l A c k' n' s' l' A' c' w _ (fun _ h => h) ha hb
theorem r8same_val (ha : Val w a x) (hb : Val w b y) : Calls Tryz.prog 19 #[x, y] w fun e w' => e = .returned (.bool (sameT a b)) ∧ Below w.heap.size w w' := by
  have ha' := ha
  have hb' := hb
  obtain ⟨A, c, rfl, _⟩ := ha
  obtain ⟨A', c', rfl, _⟩ := hb
  have HC : Hid (∀ w', Below w.heap.size w w' → Calls Tryz.prog 44 #[.agg #[.int .i64 a.kind, .int .i64 a.num, .string a.name, .slice A a.args.length c], .agg #[.int .i64 b.kind, .int .i64 b.num, .string b.name, .slice A' b.args.length c']] w' fun e w'' => e = .returned (.bool (sameT a b)) ∧ Below w'.heap.size w' w'') := Lib.hid fun w' h => rsame5_val (ha'.on h) (hb'.on h)
  have HB := Lib.hid ((below_new w (.cells #[.int .i64 a.kind, .int .i64 a.num, .string a.name, .slice A a.args.length c] 25)).alloc (by simp) (.cells #[.int .i64 b.kind, .int .i64 b.num, .string b.name, .slice A' b.args.length c'] 25))
  clear ha' hb'
  go_enter Tryz.func19, Tryz.ntmps19
  go_wp2_with fail
  refine (HC.out _ HB.out).mono ?_
  rintro e w1 ⟨rfl, hb1⟩
  have HB1 := Lib.hid hb1
  clear hb1
  go_wp2
  go_ret
  exact ⟨rfl, below_then HB.out HB1.out⟩
theorem r8self (ha : Val w a x) (hb : Val w a y) : Calls Tryz.prog 19 #[x, y] w fun e w' => e = .returned (.bool true) ∧ Below w.heap.size w w' := by
  have := r8same_val ha hb
  rwa [sameT_refl] at this
theorem size_val (ha : Val w a x) (hsz : (pre a).length ≤ 1048576) : Calls Tryz.prog 41 #[x] w fun e w' => e = .returned (.int .i64 ((pre a).length : Nat)) ∧ Below w.heap.size w w' := by
  obtain ⟨A, c, rfl, d, ha⟩ := ha
  obtain ⟨k, n, s, l⟩ := a
  exact size_any d k n s l A c w _ (fun _ h => h) ha hsz
theorem right_val (ha : Val w a x) (hsz : (pre a).length ≤ 1048576) (hlow : ∀ u ∈ pre a, LowOk u) : Calls Tryz.prog 28 #[x] w fun e w' => e = .returned (.bool (rightT a)) ∧ Below w.heap.size w w' := by
  obtain ⟨A, c, rfl, d, ha⟩ := ha
  obtain ⟨k, n, s, l⟩ := a
  exact right_any d k n s l A c w _ (fun _ h => h) ha hsz hlow
/-- A type numbered anew comes back, and its variables. -/
def GaveCanon (w : World) (t : Tt) (vs : List Int) (e : Ending) (w' : World) : Prop := ∃ v A c, e = .returned (.tuple #[v, .slice A vs.length c]) ∧ Val w' t v ∧ IntsAt w' w'.heap.size A vs ∧ vs.length ≤ c ∧ c ≤ maxLen ∧ Below w.heap.size w w'
theorem vars_val (ha : Val w a x) (hsz : (pre a).length ≤ 1048576) : Calls Tryz.prog 29 #[x] w (IntsMade w (varsT a)) := by
  obtain ⟨A, c, rfl, d, ha⟩ := ha
  obtain ⟨k, n, s, l⟩ := a
  exact vars_any d k n s l A c w _ (fun _ h => h) ha hsz
theorem put_val (ha : Val w a x) {ls : List Tt} {Al : Option Addr} {cl : Nat} (hR : Rows TyR 4 w (Lt w.heap.size) Al ls) (hl : ls.length ≤ 1048576) : Calls Tryz.prog 55 #[x, .slice Al ls.length cl] w (Gave w (putT ls a)) := by
  obtain ⟨A, c, rfl, d, ha⟩ := ha
  obtain ⟨k, n, s, l⟩ := a
  exact (put_any d k n s l A c ls Al cl w _ (fun _ h => h) ha hR hl).mono fun _ _ h => h.gave
theorem formed_val (ha : Val w a x) (hsz : (pre a).length ≤ 1048576) : Calls Tryz.prog 57 #[x] w fun e w' => e = .returned (.bool (formedT a)) ∧ Below w.heap.size w w' := by
  obtain ⟨A, c, rfl, d, ha⟩ := ha
  obtain ⟨k, n, s, l⟩ := a
  exact formed_any d k n s l A c w _ (fun _ h => h) hsz ha
end
/-! ### The chapter's example, plainly -/
def tA : Tt := .mk 1 0 ⟨#[]⟩ []
def tB : Tt := .mk 1 1 ⟨#[]⟩ []
def tC : Tt := .mk 1 2 ⟨#[]⟩ []
def fnT (a b : Tt) : Tt := .mk 2 0 ⟨#[45, 62]⟩ [a, b]
theorem canon_ex : canonT (fnT tC (fnT tA tC)) = fnT tA (fnT tB tA) := rfl
theorem vars_ex : varsT (fnT tC (fnT tA tC)) = [2, 0] := by decide
def tInt : Tt := .mk 2 0 ⟨#[105, 110, 116]⟩ []
def tRef : Tt := .mk 2 0 ⟨#[114, 101, 102]⟩ []
theorem right_int : rightT tInt = true := by decide
theorem right_ref : rightT tRef = false := by decide
theorem low_int : ∀ u ∈ pre tInt, LowOk u := by
  intro u hu
  simp [pre, preL, tInt] at hu
  subst hu
  intro _ _ h
  exact absurd (.inl rfl) h
theorem low_ref : ∀ u ∈ pre tRef, LowOk u := by
  intro u hu
  simp [pre, preL, tRef] at hu
  subst hu
  intro _ _ h
  exact absurd (.inr (.inr (.inr (.inr (.inl rfl))))) h
end Go.Proofs.YtoopopjcojphaaaGreatDoor
