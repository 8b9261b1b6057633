/-
  ty.Size, ty.fits, ty.Right.
-/
import Derived.Test.YtgdclchpccbifaaTyH
import Derived.Test.YtgdclchpccbifaaTyJ
namespace Go.Proofs.Ytgdclchpccbifaa
open Go.ChangeShapes Go.WideShapes Go.ChangeAt Go.RowKit
set_option linter.unusedVariables false
/-- A counter in block B (made by the call); nothing below it has turned. -/
def CountAt (w0 : World) (n : Nat) (w : World) : Prop := Below w0.heap.size w0 w ∧ w.heap[w0.heap.size]? = some (.cells #[.int .i64 n] 3 (0, 0))
theorem CountAt.size {w0 w : World} {n : Nat} (h : CountAt w0 n w) : w0.heap.size < w.heap.size := (Array.getElem?_eq_some_iff.1 h.2).1
theorem CountAt.set {w0 w : World} {n : Nat} (h : CountAt w0 n w) (m : Nat) : CountAt w0 m (w.setCell ⟨w0.heap.size, 0, none⟩ (.int .i64 m)) := by
  refine ⟨⟨h.1.os, h.1.tape, h.1.output, by simpa using h.1.size, fun k hk => ?_⟩, ?_⟩
  · rw [heap_setCell_other w _ _ _ (by simp; omega)]; exact h.1.block k hk
  · rw [heap_setCell_same w _ 0 _ _ _ h.2]; rfl
theorem CountAt.below {w0 w w' : World} {n : Nat} (h : CountAt w0 n w) (hb : Below w.heap.size w w') : CountAt w0 n w' := ⟨below_then h.1 hb, (hb.block _ h.size).trans h.2⟩
def cstep (n : Nat) (t : Tt) : Nat × Bool := (n + 1, true)
theorem size1_any (w0 w : World) (n : Nat) (hI : CountAt w0 n w) (hn : n + 1 ≤ 1048576) (b o : Nat) :
    Calls Try.prog 43 #[.pointer (some ⟨b, o, none⟩), .pointer (some ⟨w0.heap.size, 0, none⟩)] w fun e w' => e = .returned (.bool true) ∧ CountAt w0 (n + 1) w' := by
  have HI := Lib.hid hI
  have c1 := cell_one hI.2
  have c2 := frozen_of_row w w0.heap.size 0 _ _ hI.2
  clear hI
  go_enter Try.func43, Try.ntmps43
  go_wp2
  go_ret
  exact ⟨rfl, HI.out.set (n + 1)⟩
theorem scan_cstep : ∀ (l : List Tt) (n : Nat), scan cstep n l = (n + l.length, true)
  | [], n => rfl
  | t :: r, n => by rw [scan_yes cstep rfl, scan_cstep r]; simp [cstep]; omega
theorem size_asked (w : World) (S : Nat → Prop) (hS : ∀ b, S b → b < w.heap.size) : Asked w S (CountAt w) 43 #[.pointer (some ⟨w.heap.size, 0, none⟩)] cstep (fun n _ => n + 1 ≤ 1048576) :=
  ⟨fun s w' h => Same.of_below h.1 hS, fun args w => by kernel_rfl, fun n w' d t b o hI hg hP => size1_any w w' n hI hg b o⟩
theorem count_start (w : World) : CountAt w 0 (w.alloc (.cells #[.int .i64 0] 3)) := ⟨below_new _ _, heap_alloc_new _ _⟩
theorem size_any (d : Nat) (k n : Int) (s : ByteArray) (l : List Tt) (A : Option Addr) (c : Nat) (w : World) (S : Nat → Prop) (hS : ∀ b, S b → b < w.heap.size) (h : TyRd w S d (.mk k n s l) [.int .i64 k, .int .i64 n, .string s, .slice A l.length c])
    (hsz : (pre (.mk k n s l)).length ≤ 1048576) : Calls Try.prog 12 #[.agg #[.int .i64 k, .int .i64 n, .string s, .slice A l.length c]] w fun e w' => e = .returned (.int .i64 ((pre (.mk k n s l)).length : Nat)) ∧ Below w.heap.size w w' := by
  have HC : Hid (Calls Try.prog 40 #[.pointer (some ⟨w.heap.size, 0, none⟩), .func (.func 43) #[] #[.pointer (some ⟨w.heap.size + 1, 0, none⟩)]] ((w.alloc (.cells #[.int .i64 k, .int .i64 n, .string s, .slice A l.length c] 25)).alloc (.cells #[.int .i64 0] 3)) fun e w' => e = .returned (.bool true) ∧ CountAt (w.alloc (.cells #[.int .i64 k, .int .i64 n, .string s, .slice A l.length c] 25)) (pre (.mk k n s l)).length w') := Lib.hid (by
    have ha := size_asked (w.alloc (.cells #[.int .i64 k, .int .i64 n, .string s, .slice A l.length c] 25)) (Lt (w.heap.size + 1)) (by rw [World.size_alloc]; exact fun b hb => hb)
    have := all_any ha d (.mk k n s l) 0 _ w.heap.size 0 (count_start _) (goods_of cstep id 1048576 (fun s t => Nat.le_refl _) (fun _ _ h => h) _ _ (by simpa using hsz)) (boxed hS h)
    rw [scan_cstep, Nat.zero_add, World.size_alloc] at this
    exact this)
  clear h hS
  generalize hP : (pre (.mk k n s l)).length = P at *
  clear hP
  go_enter Try.func12, Try.ntmps12
  go_wp2_with fail
  refine HC.out.mono ?_
  rintro e w1 ⟨rfl, hc⟩
  have HX := Lib.hid hc
  have c1 := cell_one hc.2
  rw [World.size_alloc] at c1
  clear hc
  go_wp2
  go_ret
  exact ⟨rfl, below_then (below_new _ _) HX.out.1⟩
/-! ### fits -/
/-- ty.isLower answers as the reference does. -/
def LowIs (s : ByteArray) : Prop := ∀ w : World, Calls Try.prog 66 #[.string s] w fun e w' => e = .returned (.bool (lowB s)) ∧ Below w.heap.size w w'
def tblB (s : ByteArray) : Prop := s = ⟨#[105, 110, 116]⟩ ∨ s = ⟨#[98, 111, 111, 108]⟩ ∨ s = ⟨#[117, 110, 105, 116]⟩ ∨ s = ⟨#[101, 120, 110]⟩ ∨ s = ⟨#[114, 101, 102]⟩ ∨ s = ⟨#[45, 62]⟩ ∨ s = ⟨#[42]⟩
def LowOk (t : Tt) : Prop := t.kind = 2 → t.num = 0 → ¬ tblB t.name → LowIs t.name
set_option maxRecDepth 100000 in
set_option maxHeartbeats 2000000 in
theorem fits_any (t : Tt) (A : Option Addr) (c b o : Nat) (w : World) (hN : Node w b o t A c) (hl : t.args.length ≤ 1048576) (hb : b < w.heap.size) (hlow : LowOk t) (v : Bool) (hv : goodB t = v) :
    Calls Try.prog 42 #[.pointer (some ⟨b, o, none⟩)] w fun e w' => e = .returned (.bool v) ∧ Below w.heap.size w w' := by
  obtain ⟨k, n, s, l⟩ := t
  obtain ⟨c0, c1, c2, c3⟩ := hN
  simp only [Tt.kind, Tt.num, Tt.name, Tt.args] at c0 c1 c2 c3 hl
  have HB := Lib.hid hv
  have HE : Hid (goodB (.mk k n s l) = (if k = 1 then decide (0 ≤ n) && decide (s = ⟨#[]⟩) && decide (l.length = 0)
  else if k ≠ 2 ∨ n ≠ 0 then false
  else if s ≠ ⟨#[114, 101, 102]⟩ ∧ s ≠ ⟨#[45, 62]⟩ ∧ s ≠ ⟨#[42]⟩ ∧ lowB s = false then false
  else decide ((argsB s).1 ≤ l.length) && decide ((l.length : Int) ≤ (argsB s).2))) := Lib.hid rfl
  have HLOW := Lib.hid hlow
  clear hv hlow
  by_cases hk : k = 1
  case pos =>
    have q1 : (k == 1) = true := by simpa using hk
    have HK := Lib.hid hk
    clear hk
    go_enter Try.func42, Try.ntmps42
    go_wp2
    all_goals go_ret
    all_goals refine ⟨ret_bool ?_, Below.refl _ _⟩
    all_goals rw [← HB.out, HE.out, if_pos HK.out]
    all_goals rw [show decide (s = ⟨#[]⟩) = decide (s.toList = []) from decide_eq_decide.2 (str_is s []).symm]
    all_goals first
      | (rw [Bool.eq_iff_iff]; simp [*]; done)
      | (rw [Bool.eq_iff_iff]; simp [*]; omega)
  have q1 : (k == 1) = false := by simpa using hk
  have HK := Lib.hid hk
  clear hk
  by_cases h2 : k = 2
  case neg =>
    have q2 : (k != 2) = true := by simpa using h2
    have HK2 := Lib.hid h2
    clear h2
    go_enter Try.func42, Try.ntmps42
    go_wp2
    go_ret
    exact ⟨ret_bool (by rw [← HB.out, HE.out, if_neg HK.out, if_pos (.inl HK2.out)]), Below.refl _ _⟩
  have q2 : (k != 2) = false := by simpa using h2
  have HK2 := Lib.hid h2
  clear h2
  by_cases h3 : n = 0
  case neg =>
    have q3 : (n != 0) = true := by simpa using h3
    have HN := Lib.hid h3
    clear h3
    go_enter Try.func42, Try.ntmps42
    go_wp2
    go_ret
    exact ⟨ret_bool (by rw [← HB.out, HE.out, if_neg HK.out, if_pos (.inr HN.out)]), Below.refl _ _⟩
  have q3 : (n != 0) = false := by simpa using h3
  have HN := Lib.hid h3
  clear h3
  have HE3 : Hid (goodB (.mk k n s l) = (if s ≠ ⟨#[114, 101, 102]⟩ ∧ s ≠ ⟨#[45, 62]⟩ ∧ s ≠ ⟨#[42]⟩ ∧ lowB s = false then false
  else decide ((argsB s).1 ≤ l.length) && decide ((l.length : Int) ≤ (argsB s).2))) := Lib.hid (by rw [HE.out, if_neg HK.out, if_neg (by rw [HK2.out, HN.out]; simp)])
  clear HE
  by_cases a1 : s = ⟨#[105, 110, 116]⟩
  case pos =>
    have q := str_yes a1
    have HS : Hid (goodB (.mk k n s l) = (decide ((0 : Int) ≤ l.length) && decide ((l.length : Int) ≤ 0))) := Lib.hid (by rw [HE3.out, a1, if_neg (by decide)]; rfl)
    clear a1
    go_enter Try.func42, Try.ntmps42
    go_wp2
    all_goals go_ret
    all_goals refine ⟨ret_bool ?_, Below.refl _ _⟩
    all_goals rw [← HB.out, HS.out]
    all_goals first
      | (rw [Bool.eq_iff_iff]; simp [*]; done)
      | (rw [Bool.eq_iff_iff]; simp; omega)
  have a1' := str_no a1
  have Ha1 := Lib.hid a1
  clear a1
  by_cases a2 : s = ⟨#[98, 111, 111, 108]⟩
  case pos =>
    have q := str_yes a2
    have HS : Hid (goodB (.mk k n s l) = (decide ((0 : Int) ≤ l.length) && decide ((l.length : Int) ≤ 0))) := Lib.hid (by rw [HE3.out, a2, if_neg (by decide)]; rfl)
    clear a2
    go_enter Try.func42, Try.ntmps42
    go_wp2
    all_goals go_ret
    all_goals refine ⟨ret_bool ?_, Below.refl _ _⟩
    all_goals rw [← HB.out, HS.out]
    all_goals first
      | (rw [Bool.eq_iff_iff]; simp [*]; done)
      | (rw [Bool.eq_iff_iff]; simp; omega)
  have a2' := str_no a2
  have Ha2 := Lib.hid a2
  clear a2
  by_cases a3 : s = ⟨#[117, 110, 105, 116]⟩
  case pos =>
    have q := str_yes a3
    have HS : Hid (goodB (.mk k n s l) = (decide ((0 : Int) ≤ l.length) && decide ((l.length : Int) ≤ 0))) := Lib.hid (by rw [HE3.out, a3, if_neg (by decide)]; rfl)
    clear a3
    go_enter Try.func42, Try.ntmps42
    go_wp2
    all_goals go_ret
    all_goals refine ⟨ret_bool ?_, Below.refl _ _⟩
    all_goals rw [← HB.out, HS.out]
    all_goals first
      | (rw [Bool.eq_iff_iff]; simp [*]; done)
      | (rw [Bool.eq_iff_iff]; simp; omega)
  have a3' := str_no a3
  have Ha3 := Lib.hid a3
  clear a3
  by_cases a4 : s = ⟨#[101, 120, 110]⟩
  case pos =>
    have q := str_yes a4
    have HS : Hid (goodB (.mk k n s l) = (decide ((0 : Int) ≤ l.length) && decide ((l.length : Int) ≤ 0))) := Lib.hid (by rw [HE3.out, a4, if_neg (by decide)]; rfl)
    clear a4
    go_enter Try.func42, Try.ntmps42
    go_wp2
    all_goals go_ret
    all_goals refine ⟨ret_bool ?_, Below.refl _ _⟩
    all_goals rw [← HB.out, HS.out]
    all_goals first
      | (rw [Bool.eq_iff_iff]; simp [*]; done)
      | (rw [Bool.eq_iff_iff]; simp; omega)
  have a4' := str_no a4
  have Ha4 := Lib.hid a4
  clear a4
  by_cases a5 : s = ⟨#[114, 101, 102]⟩
  case pos =>
    have q := str_yes a5
    have HS : Hid (goodB (.mk k n s l) = (decide ((1 : Int) ≤ l.length) && decide ((l.length : Int) ≤ 1))) := Lib.hid (by rw [HE3.out, a5, if_neg (by decide)]; rfl)
    clear a5
    go_enter Try.func42, Try.ntmps42
    go_wp2
    all_goals go_ret
    all_goals refine ⟨ret_bool ?_, Below.refl _ _⟩
    all_goals rw [← HB.out, HS.out]
    all_goals first
      | (rw [Bool.eq_iff_iff]; simp [*]; done)
      | (rw [Bool.eq_iff_iff]; simp; omega)
  have a5' := str_no a5
  have Ha5 := Lib.hid a5
  clear a5
  by_cases a6 : s = ⟨#[45, 62]⟩
  case pos =>
    have q := str_yes a6
    have HS : Hid (goodB (.mk k n s l) = (decide ((2 : Int) ≤ l.length) && decide ((l.length : Int) ≤ 2))) := Lib.hid (by rw [HE3.out, a6, if_neg (by decide)]; rfl)
    clear a6
    go_enter Try.func42, Try.ntmps42
    go_wp2
    all_goals go_ret
    all_goals refine ⟨ret_bool ?_, Below.refl _ _⟩
    all_goals rw [← HB.out, HS.out]
    all_goals first
      | (rw [Bool.eq_iff_iff]; simp [*]; done)
      | (rw [Bool.eq_iff_iff]; simp; omega)
  have a6' := str_no a6
  have Ha6 := Lib.hid a6
  clear a6
  by_cases a7 : s = ⟨#[42]⟩
  case pos =>
    have q := str_yes a7
    have HS : Hid (goodB (.mk k n s l) = (decide ((2 : Int) ≤ l.length) && decide ((l.length : Int) ≤ 8))) := Lib.hid (by rw [HE3.out, a7, if_neg (by decide)]; rfl)
    clear a7
    go_enter Try.func42, Try.ntmps42
    go_wp2
    all_goals go_ret
    all_goals refine ⟨ret_bool ?_, Below.refl _ _⟩
    all_goals rw [← HB.out, HS.out]
    all_goals first
      | (rw [Bool.eq_iff_iff]; simp [*]; done)
      | (rw [Bool.eq_iff_iff]; simp; omega)
  have a7' := str_no a7
  have Ha7 := Lib.hid a7
  clear a7
  have HL : Hid (LowIs s) := Lib.hid (HLOW.out HK2.out HN.out (by show ¬ tblB s; unfold tblB; simp [Ha1.out, Ha2.out, Ha3.out, Ha4.out, Ha5.out, Ha6.out, Ha7.out]))
  have HE5 : Hid (goodB (.mk k n s l) = (lowB s && decide ((l.length : Int) ≤ 8))) := Lib.hid (by
    have ha : argsB s = (0, 8) := by unfold argsB; rw [if_neg (by simp [Ha1.out, Ha2.out, Ha3.out, Ha4.out]), if_neg Ha5.out, if_neg Ha6.out, if_neg Ha7.out]
    rw [HE3.out, ha]
    cases lowB s
    · rw [if_pos ⟨Ha5.out, Ha6.out, Ha7.out, rfl⟩]; rfl
    · rw [if_neg (by simp)]; simp)
  by_cases h8 : l.length ≤ 8
  · have q8 : (l.length : Int) ≤ 8 := by omega
    go_enter Try.func42, Try.ntmps42
    go_wp2_with (go_at_call 66; refine (HL.out _).mono ?_; rintro e w1 ⟨rfl, hb1⟩; have HB1 := Lib.hid hb1; clear hb1)
    go_ret
    exact ⟨ret_bool (by rw [← HB.out, HE5.out, decide_eq_true q8, Bool.and_true]), HB1.out⟩
  · have q8 : (8 : Int) < l.length := by omega
    go_enter Try.func42, Try.ntmps42
    go_wp2
    go_ret
    exact ⟨ret_bool (by rw [← HB.out, HE5.out]; simp; omega), Below.refl _ _⟩
/-! ### Right -/
def rstep (n : Nat) (t : Tt) : Nat × Bool := (n + 1, decide (n + 1 ≤ 256) && goodB t)
set_option maxRecDepth 100000 in
theorem right1_any (w0 w : World) (n : Nat) (hI : CountAt w0 n w) (hn : n + 1 ≤ 1048576) (S : Nat → Prop) (hS : ∀ b, S b → b < w0.heap.size) (d : Nat) (t : Tt) (b o : Nat) (hP : TyP w S d t b o) (hlow : LowOk t) :
    Calls Try.prog 41 #[.pointer (some ⟨b, o, none⟩), .pointer (some ⟨w0.heap.size, 0, none⟩)] w fun e w' => e = .returned (.bool (rstep n t).2) ∧ CountAt w0 (rstep n t).1 w' := by
  obtain ⟨A, c, d', rfl, hN, hnn, hlen, hnm, hSb, _⟩ := hP.node
  have hbl := hS b hSb
  have HI := Lib.hid hI
  have c1 := cell_one hI.2
  have c2 := frozen_of_row w w0.heap.size 0 _ _ hI.2
  have hz := hI.size
  have HV : Hid ((rstep n t).2 = (decide (n + 1 ≤ 256) && goodB t) ∧ (rstep n t).1 = n + 1) := Lib.hid ⟨rfl, rfl⟩
  by_cases h6 : n + 1 ≤ 256
  · have q : ((n : Int) + 1 ≤ 256) := by omega
    have hset := hI.set (n + 1)
    have HF : Hid (Calls Try.prog 42 #[.pointer (some ⟨b, o, none⟩)] (w.setCell ⟨w0.heap.size, 0, none⟩ (.int .i64 ((n + 1 : Nat) : Int))) fun e w' => e = .returned (.bool (goodB t)) ∧ Below w.heap.size (w.setCell ⟨w0.heap.size, 0, none⟩ (.int .i64 ((n + 1 : Nat) : Int))) w') := Lib.hid (by
      have hs : Same S w (w.setCell ⟨w0.heap.size, 0, none⟩ (.int .i64 ((n + 1 : Nat) : Int))) := fun x y hx => World.cell?_of_block (a := ⟨x, y, none⟩) (heap_setCell_other w _ _ _ (by have := hS x hx; show x ≠ _; simp; omega))
      have := fits_any t A c b o _ (hN.keep hs hSb) hlen (by simp; omega) hlow (goodB t) rfl
      rwa [World.size_setCell] at this)
    have HSET := Lib.hid hset
    clear hI hN hset hP hlow
    go_enter Try.func41, Try.ntmps41
    go_wp2_with (go_at_call 42; refine (HF.out).mono ?_; rintro e w1 ⟨rfl, hb1⟩; have HB1 := Lib.hid hb1; clear hb1)
    go_ret
    exact ⟨ret_bool (by rw [HV.out.1]; simp [h6]), by rw [HV.out.2]; exact HSET.out.below (by rw [World.size_setCell]; exact HB1.out)⟩
  · have q : (256 < (n : Int) + 1) := by omega
    clear hI hN hP hlow
    go_enter Try.func41, Try.ntmps41
    go_wp2
    go_ret
    exact ⟨ret_bool (by rw [HV.out.1]; simp [h6]), by rw [HV.out.2]; exact HI.out.set (n + 1)⟩
theorem goods_right (Q : Tt → Prop) : ∀ (l : List Tt) (n : Nat), n + l.length ≤ 1048576 → (∀ u ∈ l, Q u) → goods rstep (fun n t => n + 1 ≤ 1048576 ∧ Q t) n l
  | [], _, _, _ => trivial
  | t :: r, n, h, hq => ⟨⟨by simp at h; omega, hq t (List.mem_cons_self ..)⟩, fun _ => goods_right Q r (n + 1) (by simp at h; omega) fun u hu => hq u (List.mem_cons_of_mem _ hu)⟩
theorem scan_rstep : ∀ (l : List Tt) (n : Nat), n ≤ 256 → (scan rstep n l).2 = (decide (n + l.length ≤ 256) && l.all goodB)
  | [], n, h => by simp [scan, h]
  | t :: r, n, h => by
    by_cases h1 : n + 1 ≤ 256
    · cases hg : goodB t
      · rw [scan_no rstep (by simp [rstep, hg])]; simp [hg]
      · rw [scan_yes rstep (by simp [rstep, hg, h1]), show (rstep n t).1 = n + 1 from rfl, scan_rstep r (n + 1) h1]
        simp [hg]; congr 1; rw [decide_eq_decide]; omega
    · rw [scan_no rstep (by simp [rstep, h1])]
      simp; intro h2; omega
theorem right_asked (w : World) (S : Nat → Prop) (hS : ∀ b, S b → b < w.heap.size) : Asked w S (CountAt w) 41 #[.pointer (some ⟨w.heap.size, 0, none⟩)] rstep (fun n t => n + 1 ≤ 1048576 ∧ LowOk t) :=
  ⟨fun s w' h => Same.of_below h.1 hS, fun args w => by kernel_rfl, fun n w' d t b o hI hg hP => right1_any w w' n hI hg.1 S hS d t b o hP hg.2⟩
def rightT (t : Tt) : Bool := decide ((pre t).length ≤ 256) && formedT t
theorem right_any (d : Nat) (k n : Int) (s : ByteArray) (l : List Tt) (A : Option Addr) (c : Nat) (w : World) (S : Nat → Prop) (hS : ∀ b, S b → b < w.heap.size) (h : TyRd w S d (.mk k n s l) [.int .i64 k, .int .i64 n, .string s, .slice A l.length c])
    (hsz : (pre (.mk k n s l)).length ≤ 1048576) (hlow : ∀ u ∈ pre (.mk k n s l), LowOk u) : Calls Try.prog 10 #[.agg #[.int .i64 k, .int .i64 n, .string s, .slice A l.length c]] w fun e w' => e = .returned (.bool (rightT (.mk k n s l))) ∧ Below w.heap.size w w' := by
  have HC : Hid (Calls Try.prog 40 #[.pointer (some ⟨w.heap.size, 0, none⟩), .func (.func 41) #[] #[.pointer (some ⟨w.heap.size + 1, 0, none⟩)]] ((w.alloc (.cells #[.int .i64 k, .int .i64 n, .string s, .slice A l.length c] 25)).alloc (.cells #[.int .i64 0] 3)) fun e w' => e = .returned (.bool (rightT (.mk k n s l))) ∧ ∃ m, CountAt (w.alloc (.cells #[.int .i64 k, .int .i64 n, .string s, .slice A l.length c] 25)) m w') := Lib.hid (by
    have ha := right_asked (w.alloc (.cells #[.int .i64 k, .int .i64 n, .string s, .slice A l.length c] 25)) (Lt (w.heap.size + 1)) (by rw [World.size_alloc]; exact fun b hb => hb)
    have := all_any ha d (.mk k n s l) 0 _ w.heap.size 0 (count_start _) (goods_right LowOk _ 0 (by omega) hlow) (boxed hS h)
    rw [scan_rstep _ _ (by omega), Nat.zero_add, World.size_alloc] at this
    exact this.mono fun e w' h => ⟨h.1, _, h.2⟩)
  clear h hS hlow
  go_enter Try.func10, Try.ntmps10
  go_wp2_with fail
  refine HC.out.mono ?_
  rintro e w1 ⟨rfl, m, hc⟩
  have HX := Lib.hid hc
  clear hc
  go_wp2
  go_ret
  exact ⟨rfl, below_then (below_new _ _) HX.out.1⟩
end Go.Proofs.Ytgdclchpccbifaa
