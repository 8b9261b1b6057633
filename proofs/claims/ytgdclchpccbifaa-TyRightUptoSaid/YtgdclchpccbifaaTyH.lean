/-
  ty.Vars, ty.Canon, ty.Put.
-/
import Derived.Test.YtgdclchpccbifaaTyG
namespace Go.Proofs.Ytgdclchpccbifaa
open Go.ChangeShapes Go.WideShapes Go.ChangeAt Go.RowKit
set_option linter.unusedVariables false
/-- A struct in a new block. -/
theorem boxed {w : World} {S : Nat → Prop} {d : Nat} {t : Tt} {cs : List Value} (hS : ∀ b, S b → b < w.heap.size) (h : TyRd w S d t cs) : TyP (w.alloc (.cells cs.toArray 25)) (Lt (w.heap.size + 1)) d t w.heap.size 0 := by
  refine ⟨Nat.lt_succ_self _, cs, fun j u hj => ?_, TyRd.more (S := S) (fun b hb => by have := hS b hb; show b < w.heap.size + 1; omega) _ _ _ (TyRd.keep (Same.of_below (below_new w _) hS) _ _ _ h)⟩
  rw [Nat.zero_add, cell_of_row _ _ j cs.toArray _ (0, 0) (heap_alloc_new w _)]; simpa using hj
/-- A list of numbers comes back. -/
def IntsMade (w : World) (vs : List Int) (e : Ending) (w' : World) : Prop :=
  ∃ A c, e = .returned (.slice A vs.length c) ∧ IntsAt w' w'.heap.size A vs ∧ vs.length ≤ c ∧ c ≤ maxLen ∧ (∀ ad : Addr, A = some ad → w.heap.size ≤ ad.block) ∧ Below w.heap.size w w'
theorem vars_any (d : Nat) (k n : Int) (s : ByteArray) (l : List Tt) (A : Option Addr) (c : Nat) (w : World) (S : Nat → Prop) (hS : ∀ b, S b → b < w.heap.size) (h : TyRd w S d (.mk k n s l) [.int .i64 k, .int .i64 n, .string s, .slice A l.length c])
    (hsz : (pre (.mk k n s l)).length ≤ 1048576) : Calls Try.prog 26 #[.agg #[.int .i64 k, .int .i64 n, .string s, .slice A l.length c]] w (IntsMade w (varsT (.mk k n s l))) := by
  have HR := Lib.hid (renum_any d (.mk k n s l) w.heap.size 0 (w.alloc (.cells #[.int .i64 k, .int .i64 n, .string s, .slice A l.length c] 25)) _ (by rw [World.size_alloc]; exact fun b hb => hb) (boxed hS h) hsz)
  clear h hS hsz
  go_enter Try.func26, Try.ntmps26
  go_wp2_with fail
  refine HR.out.mono ?_
  rintro e w1 ⟨A5, c5, rfl, h1, h2, h3, h4, h8, h5⟩
  rw [World.size_alloc] at h8
  have H8 := Lib.hid h8
  clear h8
  have HM := Lib.hid (And.intro h2 (And.intro h3 (And.intro h4 h5)))
  clear h1 h2 h3 h4 h5
  go_wp2
  go_ret
  exact ⟨A5, c5, rfl, HM.out.1, HM.out.2.1, HM.out.2.2.1, fun ad e => Nat.le_trans (Nat.le_succ _) (H8.out ad e), below_then (below_new _ _) HM.out.2.2.2⟩
theorem place0_in {vs : List Int} (h : vs.length ≤ 1048576) (x : Int) : 0 ≤ place0 vs x ∧ place0 vs x ≤ 1048576 := by
  unfold place0
  split
  · rename_i hm
    have := List.idxOf_lt_length_of_mem hm
    omega
  · omega
set_option maxRecDepth 100000 in
set_option maxHeartbeats 1000000 in
theorem canon1_gives {w0 : World} {vs : List Int} {M B : Nat} (hM : NumMap Try.prog 3 3 w0 M vs.length vs) (hc : w0.heap[B]? = some (.cells #[.map (some M)] 90 (0, 0))) (hl : vs.length ≤ 1048576) :
    Gives w0 51 #[.pointer (some ⟨B, 0, none⟩)] (numG vs) := by
  refine ⟨fun args w => by kernel_rfl, fun w t A c B1 hb hB1 hBw ht hr => ?_⟩
  obtain ⟨k, n, s, l⟩ := t
  simp only [Tt.kind, Tt.num, Tt.name, Tt.args] at ht hr
  obtain ⟨A', c', hcs, hn, hl2, hs2, hrows⟩ := TyR.open_ hr
  simp only [Tt.kind, Tt.num, Tt.name, Tt.args, List.cons.injEq, Value.slice.injEq, and_true, true_and] at hcs hn hl2 hs2 hrows
  obtain ⟨rfl, rfl⟩ := hcs
  have hBl : B < w0.heap.size := (Array.getElem?_eq_some_iff.1 hc).1
  have hp := place0_in hl n
  have HQ : Hid (∀ W', Below w0.heap.size w0 W' → W'.cell? ⟨B, 0, none⟩ = some (.map (some M)) ∧ (Instr.lookup 90 (.map (some M)) (.int .i64 n) false).run Try.prog W' = .ok (.int .i64 (place0 vs n)) W') := Lib.hid fun W' h =>
    ⟨cell_one ((h.block B hBl).trans hc), (hM.block (h.block M hM.lt)).look Try.underlying3 Try.underlying3 Try.underlying90 (zeroI _) hn⟩
  have HR := Lib.hid hr
  have HB := Lib.hid hb
  clear hr hb hB1 hc hM
  have hzw : w0.heap.size ≤ w.heap.size := HB.out.size
  show Calls Try.prog 51 #[.agg #[.int .i64 k, .int .i64 n, .string s, .slice A l.length c], .pointer (some ⟨B, 0, none⟩)] w (Made w B1 (.mk k (place0 vs n) s l))
  have hb2 : Below w0.heap.size w0 ((w.alloc (.cells #[.int .i64 k, .int .i64 n, .string s, .slice A l.length c] 25)).alloc (.cells #[.int .i64 0, .int .i64 0, .string ⟨#[]⟩, .slice none 0 0] 25)) := HB.out.trans ((((below_new w _).alloc (by simp) _)).mono hzw)
  obtain ⟨q1, q2⟩ := HQ.out _ hb2
  obtain ⟨q0, q9⟩ := HQ.out w HB.out
  have hBW : B < w.heap.size := by omega
  have HF := Lib.hid (And.intro hs2 (And.intro hl2 hp))
  have HRW := Lib.hid hrows
  clear hb2 q1 q9 ht hs2 hl2 hBl hzw hp hl hn HQ hrows
  go_enter Try.func51, Try.ntmps51
  go_wp2
  refine bodyPost_ret (v := .agg #[.int .i64 k, .int .i64 (place0 vs n), .string s, .slice A l.length c]) (results_cell_row rfl _ _ (w.heap.size + 1) 25 _ (0, 0) _ rfl (heap_alloc2_new _ _ _) Try.underlying25 rfl (tySizeA _ _ _ _)) rfl ?_
  have hb2 := (below_new w (.cells #[.int .i64 k, .int .i64 (place0 vs n), .string s, .slice A l.length c] 25)).alloc (by simp) (.cells #[.int .i64 k, .int .i64 (place0 vs n), .string s, .slice A l.length c] 25)
  refine ⟨A, c, rfl, TyR.mk (by have := HF.out.2.2; omega) HF.out.2.1 HF.out.1 ?_, hb2⟩
  exact (HRW.out.keep (Same.of_below hb2 fun b hb => hb.2)).more fun b hb => ⟨hb.1, Nat.lt_of_lt_of_le hb.2 hb2.size⟩
theorem ints_after {w1 w3 : World} {A : Option Addr} {vs : List Int} {g : Nat} (h : IntsAt w1 w1.heap.size A vs) (hb : Below w1.heap.size w1 w3) (hg : g < w1.heap.size) (r : Array Value) (hne : ∀ ad : Addr, A = some ad → ad.block ≠ g) : IntsAt (w3.setRow g r) (w3.setRow g r).heap.size A vs := fun k x hx => by
  obtain ⟨ad, e, hB, hc⟩ := h k x hx
  refine ⟨ad, e, by rw [size_setRow]; have := hb.size; omega, ?_⟩
  rw [World.cell?_of_block (setRow_old (by rw [block_add]; exact hne ad e))]
  exact (hb.cell (by rw [block_add]; exact hB)).trans hc
/-- A type numbered anew, and its variables. -/
def CanonMade (w : World) (t : Tt) (e : Ending) (w' : World) : Prop :=
  ∃ A c A' c', e = .returned (.tuple #[.agg #[.int .i64 (canonT t).kind, .int .i64 (canonT t).num, .string (canonT t).name, .slice A (canonT t).args.length c], .slice A' (varsT t).length c']) ∧
    TyR.rd w' (New w.heap.size w') (canonT t) [.int .i64 (canonT t).kind, .int .i64 (canonT t).num, .string (canonT t).name, .slice A (canonT t).args.length c] ∧ IntsAt w' w'.heap.size A' (varsT t) ∧ (varsT t).length ≤ c' ∧ c' ≤ maxLen ∧ (∀ ad : Addr, A' = some ad → w.heap.size ≤ ad.block) ∧ Below w.heap.size w w'
theorem vars_le (t : Tt) : (varsT t).length ≤ (pre t).length := by
  have key : ∀ (l : List Tt) (s : List Int), (scan vstep s l).1.length ≤ s.length + l.length := by
    intro l
    induction l with
    | nil => intro s; simp [scan]
    | cons a r ih => intro s; rw [scan_yes vstep rfl]; have := ih (vstep s a).1; have := vstep_len s a; simp; omega
  simpa [varsT] using key (pre t) []
set_option maxRecDepth 100000 in
theorem results_canon {tmps : Array Value} {w : World} {g : Nat} {v : Value} {cs : Array Value} {t : TypeId} {fr : Nat × Nat} (hp : tmps.getD 2 undef = .pointer (some ⟨g, 0, none⟩)) (hv : tmps.getD 3 undef = v) (hg : w.heap[g]? = some (.cells cs t fr)) (hi : (Try.prog.info? 25).map (·.size) = some cs.size) :
    (results Try.f23 tmps).run Try.prog w = .ok (.tuple #[.agg cs, v]) w := by
  have hp' : tmps[2]?.getD undef = .pointer (some ⟨g, 0, none⟩) := by simpa using hp
  have hv' : tmps[3]?.getD undef = v := by simpa using hv
  simp [results, Try.f23, hp', hv', asAddr, run_loadVar_row w g t 25 _ _ _ hg Try.underlying25 rfl hi]
set_option maxRecDepth 100000 in
set_option maxHeartbeats 1000000 in
theorem canon_any (d : Nat) (k n : Int) (s : ByteArray) (l : List Tt) (A : Option Addr) (c : Nat) (w : World) (S : Nat → Prop) (hS : ∀ b, S b → b < w.heap.size) (h : TyRd w S d (.mk k n s l) [.int .i64 k, .int .i64 n, .string s, .slice A l.length c])
    (hsz : (pre (.mk k n s l)).length ≤ 1048576) : Calls Try.prog 23 #[.agg #[.int .i64 k, .int .i64 n, .string s, .slice A l.length c]] w (CanonMade w (.mk k n s l)) := by
  have hb2 : Below w.heap.size w ((w.alloc (.cells #[.int .i64 k, .int .i64 n, .string s, .slice A l.length c] 25)).alloc (.cells #[.int .i64 0, .int .i64 0, .string ⟨#[]⟩, .slice none 0 0] 25)) := (below_new _ _).alloc (by simp) _
  have hP := (boxed hS h).keep (w' := (w.alloc (.cells #[.int .i64 k, .int .i64 n, .string s, .slice A l.length c] 25)).alloc (.cells #[.int .i64 0, .int .i64 0, .string ⟨#[]⟩, .slice none 0 0] 25)) (Same.lt ((below_new _ _).mono (by simp)))
  have HR : Hid (Calls Try.prog 50 #[.pointer (some ⟨w.heap.size, 0, none⟩)] ((w.alloc (.cells #[.int .i64 k, .int .i64 n, .string s, .slice A l.length c] 25)).alloc (.cells #[.int .i64 0, .int .i64 0, .string ⟨#[]⟩, .slice none 0 0] 25)) (Renum ((w.alloc (.cells #[.int .i64 k, .int .i64 n, .string s, .slice A l.length c] 25)).alloc (.cells #[.int .i64 0, .int .i64 0, .string ⟨#[]⟩, .slice none 0 0] 25)) (varsT (.mk k n s l)))) :=
    Lib.hid (renum_any d (.mk k n s l) w.heap.size 0 _ _ (by intro b hb; have : b < w.heap.size + 1 := hb; simp; omega) hP hsz)
  have hvl := Nat.le_trans (vars_le (.mk k n s l)) hsz
  have HVL := Lib.hid hvl
  have HH := Lib.hid h
  have HS := Lib.hid hS
  clear h hS hsz hP hb2 hvl
  go_enter Try.func23, Try.ntmps23
  go_wp2_with fail
  refine HR.out.mono ?_
  rintro e w1 ⟨A5, c5, rfl, h1, h2, h3, h4, h8, h5⟩
  rw [World.size_alloc, World.size_alloc] at h1 h8
  have H8 := Lib.hid h8
  clear h8
  have hbw1 : Below w.heap.size w w1 := below_then ((below_new w (.cells #[.int .i64 k, .int .i64 n, .string s, .slice A l.length c] 25)).alloc (by simp) (.cells #[.int .i64 0, .int .i64 0, .string ⟨#[]⟩, .slice none 0 0] 25)) (h5.mono (by simp; try omega))
  have hrow : w1.heap[w.heap.size]? = some (.cells #[.int .i64 k, .int .i64 n, .string s, .slice A l.length c] 25 (0, 0)) := (h5.block _ (by simp; try omega)).trans (heap_alloc2_old _ _ _)
  have hres : w1.heap[w.heap.size + 1]? = some (.cells #[.int .i64 0, .int .i64 0, .string ⟨#[]⟩, .slice none 0 0] 25 (0, 0)) := (h5.block _ (by simp)).trans (heap_alloc2_new _ _ _)
  have HM := Lib.hid (And.intro h1 (And.intro h2 (And.intro h3 (And.intro h4 (And.intro hbw1 (And.intro hrow hres))))))
  have hz1 := h1.lt
  have hz0 := hbw1.size
  clear h1 h2 h3 h4 h5 hbw1 hrow hres
  have HC : Hid (Calls Try.prog 46 #[.agg #[.int .i64 k, .int .i64 n, .string s, .slice A l.length c], .func (.func 51) #[] #[.pointer (some ⟨w1.heap.size, 0, none⟩)]] (w1.alloc (.cells #[.map (some (w.heap.size + 2))] 90)) (Made (w1.alloc (.cells #[.map (some (w.heap.size + 2))] 90)) (w1.heap.size + 1) (canonT (.mk k n s l)))) := Lib.hid (by
    have hg := canon1_gives (w0 := w1.alloc (.cells #[.map (some (w.heap.size + 2))] 90)) (vs := varsT (.mk k n s l)) (M := w.heap.size + 2) (B := w1.heap.size) (HM.out.1.block (heap_alloc_old _ _ HM.out.1.lt)) (heap_alloc_new _ _) HVL.out
    have hb3 : Below w.heap.size w (w1.alloc (.cells #[.map (some (w.heap.size + 2))] 90)) := below_then HM.out.2.2.2.2.1 (below_new _ _)
    have := copied_any hg d k n s l A c _ S (Below.refl _ _) (fun b hb => by have := HS.out b hb; have := hb3.size; omega) (TyRd.keep (Same.of_below hb3 HS.out) _ _ _ HH.out)
    rw [World.size_alloc] at this
    exact this)
  have HRW : Hid (∀ W', Below w1.heap.size w1 W' → W'.heap[w.heap.size]? = some (.cells #[.int .i64 k, .int .i64 n, .string s, .slice A l.length c] 25 (0, 0))) := Lib.hid fun W' h => (h.block _ (by omega)).trans HM.out.2.2.2.2.2.1
  go_wp2_with (refine wpList_load_row rfl 25 _ rfl w.heap.size rfl 25 #[.int .i64 k, .int .i64 n, .string s, .slice A l.length c] (0, 0) _ (HRW.out _ (below_new _ _)) Try.underlying25 rfl (tySizeA _ _ _ _) ?_)
  refine HC.out.mono ?_
  rintro e w3 ⟨A6, c6, rfl, h6, h7⟩
  have hb13 : Below w1.heap.size w1 w3 := below_then (below_new _ _) h7
  have HN := Lib.hid (And.intro h6 hb13)
  clear h6 h7 hb13
  have HRS : Hid (w3.heap[w.heap.size + 1]? = some (.cells #[.int .i64 0, .int .i64 0, .string ⟨#[]⟩, .slice none 0 0] 25 (0, 0))) := Lib.hid ((HN.out.2.block _ (by omega)).trans HM.out.2.2.2.2.2.2)
  go_wp2_with (refine wpList_store_row rfl 25 _ _ rfl (w.heap.size + 1) _ rfl rfl 25 #[.int .i64 0, .int .i64 0, .string ⟨#[]⟩, .slice none 0 0] HRS.out (tySizeA _ _ _ _) rfl (one4 _ _ _ _ _ _) ?_)
  refine bodyPost_ret (v := .tuple #[.agg #[.int .i64 (canonT (.mk k n s l)).kind, .int .i64 (canonT (.mk k n s l)).num, .string (canonT (.mk k n s l)).name, .slice A6 (canonT (.mk k n s l)).args.length c6], .slice A5 (varsT (.mk k n s l)).length c5]) (results_canon rfl rfl (setRow_row HRS.out) (tySizeA _ _ _ _)) rfl ?_
  obtain ⟨f1, f2⟩ := boxed_end (w := w) (b := w.heap.size + 1) (r := #[.int .i64 (canonT (.mk k n s l)).kind, .int .i64 (canonT (.mk k n s l)).num, .string (canonT (.mk k n s l)).name, .slice A6 (canonT (.mk k n s l)).args.length c6]) HN.out.1 (by omega) (by omega) (below_then HM.out.2.2.2.2.1 HN.out.2)
  refine ⟨A6, c6, A5, c5, rfl, f1, ?_, HM.out.2.2.1, HM.out.2.2.2.1, fun ad e => by have := H8.out ad e; omega, f2⟩
  exact ints_after HM.out.2.1 HN.out.2 (by omega) _ (fun ad e => by have := H8.out ad e; omega)
/-! ### Put -/
set_option maxRecDepth 100000 in
set_option maxHeartbeats 1000000 in
theorem put1_gives {w0 : World} {ls : List Tt} {Al : Option Addr} {cl B : Nat} {S : Nat → Prop} (hS : ∀ b, S b → b < w0.heap.size) (hR : Rows TyR 4 w0 S Al ls) (hc : w0.heap[B]? = some (.cells #[.slice Al ls.length cl] 23 (0, 0))) (hl : ls.length ≤ 1048576) :
    Gives w0 54 #[.pointer (some ⟨B, 0, none⟩)] (putG ls) := by
  refine ⟨fun args w => by kernel_rfl, fun w t A c B1 hb hB1 hBw ht hr => ?_⟩
  obtain ⟨k, n, s, l⟩ := t
  simp only [Tt.kind, Tt.num, Tt.name, Tt.args] at ht hr
  obtain ⟨A', c', hcs, hn, hl2, hs2, hrows⟩ := TyR.open_ hr
  simp only [Tt.kind, Tt.num, Tt.name, Tt.args, List.cons.injEq, Value.slice.injEq, and_true, true_and] at hcs hn hl2 hs2 hrows
  obtain ⟨rfl, rfl⟩ := hcs
  have hBl : B < w0.heap.size := (Array.getElem?_eq_some_iff.1 hc).1
  have HQ : Hid (∀ W', Below w0.heap.size w0 W' → W'.cell? ⟨B, 0, none⟩ = some (.slice Al ls.length cl)) := Lib.hid fun W' h => cell_one ((h.block B hBl).trans hc)
  have HR := Lib.hid hr
  have HB := Lib.hid hb
  have HS := Lib.hid hS
  have HRR := Lib.hid hR
  have HB1 := Lib.hid (And.intro hB1 hBw)
  have hzw : w0.heap.size ≤ w.heap.size := hb.size
  have hBW : B < w.heap.size := by omega
  have q1 := HQ.out w hb
  clear hr hb hc hS hR hl2 hs2 hrows HQ hBl hB1 hBw ht
  show Calls Try.prog 54 #[.agg #[.int .i64 k, .int .i64 n, .string s, .slice A l.length c], .pointer (some ⟨B, 0, none⟩)] w (Made w B1 (putG ls (.mk k n s l)))
  by_cases hcond : 0 ≤ n ∧ n < ls.length
  · obtain ⟨h0, h1⟩ := hcond
    obtain ⟨m, rfl⟩ := Int.eq_ofNat_of_zero_le h0
    have hm : m < ls.length := by omega
    have HE : Hid (putG ls (.mk k m s l) = ls[m]) := Lib.hid (by unfold putG; rw [dif_pos (by simp only [Tt.num]; omega)]; rfl)
    obtain ⟨b, o, cs, rfl, hSb, hr, hd⟩ := HRR.out.at_ hm
    rw [HE.out]
    generalize ls[m] = x at *
    obtain ⟨k2, n2, s2, l2⟩ := x
    obtain ⟨A2, c2, hcs, _⟩ := TyR.open_ hd
    simp only [Tt.kind, Tt.num, Tt.name, Tt.args] at hcs
    subst hcs
    obtain ⟨d0, hd0⟩ := hd
    have HW : Hid (Below w0.heap.size w0 ((w.alloc (.cells #[.int .i64 k, .int .i64 m, .string s, .slice A l.length c] 25)).alloc (.cells #[.int .i64 0, .int .i64 0, .string ⟨#[]⟩, .slice none 0 0] 25))) := Lib.hid (HB.out.trans ((((below_new w _).alloc (by simp) _)).mono hzw))
    have HC : Hid (Calls Try.prog 46 #[.agg #[.int .i64 k2, .int .i64 n2, .string s2, .slice A2 l2.length c2], .func (.func 47) #[] #[]] ((w.alloc (.cells #[.int .i64 k, .int .i64 m, .string s, .slice A l.length c] 25)).alloc (.cells #[.int .i64 0, .int .i64 0, .string ⟨#[]⟩, .slice none 0 0] 25)) (Made ((w.alloc (.cells #[.int .i64 k, .int .i64 m, .string s, .slice A l.length c] 25)).alloc (.cells #[.int .i64 0, .int .i64 0, .string ⟨#[]⟩, .slice none 0 0] 25)) (w.heap.size + 2) (.mk k2 n2 s2 l2))) := Lib.hid (by
      have := copied_any (itself_gives ((w.alloc (.cells #[.int .i64 k, .int .i64 m, .string s, .slice A l.length c] 25)).alloc (.cells #[.int .i64 0, .int .i64 0, .string ⟨#[]⟩, .slice none 0 0] 25))) d0 k2 n2 s2 l2 A2 c2 _ S (Below.refl _ _) (fun x hx => by have := HS.out x hx; have := HW.out.size; omega) (hd0.keep (Same.of_below HW.out HS.out))
      rw [cp_id, World.size_alloc, World.size_alloc] at this
      exact this)
    have HRow : Hid (((w.alloc (.cells #[.int .i64 k, .int .i64 m, .string s, .slice A l.length c] 25)).alloc (.cells #[.int .i64 0, .int .i64 0, .string ⟨#[]⟩, .slice none 0 0] 25)).rangeAt b (o + m * 4) [.int .i64 k2, .int .i64 n2, .string s2, .slice A2 l2.length c2]) := Lib.hid (range_same hr (Same.of_below HW.out HS.out) hSb)
    clear hr hd0 hSb
    go_enter Try.func54, Try.ntmps54
    go_wp2_with (refine wpList_load_mid rfl 25 _ rfl b (o + m * 4) rfl _ _ HRow.out Try.underlying25 rfl (tySize _ _ _ _) ?_)
    refine HC.out.mono ?_
    rintro e w3 ⟨A6, c6, rfl, h6, h7⟩
    have HN := Lib.hid (And.intro h6 h7)
    clear h6 h7
    have HRS : Hid (w3.heap[w.heap.size + 1]? = some (.cells #[.int .i64 0, .int .i64 0, .string ⟨#[]⟩, .slice none 0 0] 25 (0, 0))) := Lib.hid ((HN.out.2.block _ (by simp)).trans (heap_alloc2_new _ _ _))
    go_wp2_with (refine wpList_store_row rfl 25 _ _ rfl (w.heap.size + 1) _ rfl rfl 25 #[.int .i64 0, .int .i64 0, .string ⟨#[]⟩, .slice none 0 0] HRS.out (tySizeA _ _ _ _) rfl (one4 _ _ _ _ _ _) ?_)
    refine bodyPost_ret (v := .agg #[.int .i64 k2, .int .i64 n2, .string s2, .slice A6 l2.length c6]) (results_cell_row rfl _ _ (w.heap.size + 1) 25 _ (0, 0) _ rfl (setRow_row HRS.out) Try.underlying25 rfl (tySizeA _ _ _ _)) rfl ?_
    obtain ⟨f1, f2⟩ := boxed_end (w := w) (b := w.heap.size + 1) (r := #[.int .i64 k2, .int .i64 n2, .string s2, .slice A6 l2.length c6]) HN.out.1 (by omega) (by omega) (below_then ((below_new w _).alloc (by simp) _) (HN.out.2.mono (by simp)))
    exact ⟨A6, c6, rfl, TyR.more (fun b hb => ⟨by have := hb.1; have := HB1.out.2; omega, hb.2⟩) f1, f2⟩
  · have HE : Hid (putG ls (.mk k n s l) = .mk k n s l) := Lib.hid (by unfold putG; rw [dif_neg (by simpa only [Tt.num] using hcond)])
    rw [HE.out]
    have hfin : ∀ W', W' = ((w.alloc (.cells #[.int .i64 k, .int .i64 n, .string s, .slice A l.length c] 25)).alloc (.cells #[.int .i64 k, .int .i64 n, .string s, .slice A l.length c] 25)) → Made w B1 (.mk k n s l) (.returned (.agg #[.int .i64 k, .int .i64 n, .string s, .slice A l.length c])) W' := by
      rintro W' rfl
      have hb2 := (below_new w (.cells #[.int .i64 k, .int .i64 n, .string s, .slice A l.length c] 25)).alloc (by simp) (.cells #[.int .i64 k, .int .i64 n, .string s, .slice A l.length c] 25)
      exact ⟨A, c, rfl, TyR.more (fun b hb => ⟨hb.1, Nat.lt_of_lt_of_le hb.2 hb2.size⟩) (TyR.keep (Same.of_below hb2 fun b hb => hb.2) HR.out), hb2⟩
    have HFIN := Lib.hid hfin
    clear hfin HR HB HRR
    by_cases h0 : 0 ≤ n
    · have g1 : decide (0 ≤ n) = true := by simpa using h0
      have g2 : decide (n < ls.length) = false := by simp only [decide_eq_false_iff_not]; exact fun h => hcond ⟨h0, h⟩
      clear hcond h0
      go_enter Try.func54, Try.ntmps54
      go_wp2
      refine bodyPost_ret (v := .agg #[.int .i64 k, .int .i64 n, .string s, .slice A l.length c]) (results_cell_row rfl _ _ (w.heap.size + 1) 25 _ (0, 0) _ rfl (heap_alloc2_new _ _ _) Try.underlying25 rfl (tySizeA _ _ _ _)) rfl (HFIN.out _ rfl)
    · have g1 : decide (0 ≤ n) = false := by simpa using h0
      clear hcond h0
      go_enter Try.func54, Try.ntmps54
      go_wp2
      refine bodyPost_ret (v := .agg #[.int .i64 k, .int .i64 n, .string s, .slice A l.length c]) (results_cell_row rfl _ _ (w.heap.size + 1) 25 _ (0, 0) _ rfl (heap_alloc2_new _ _ _) Try.underlying25 rfl (tySizeA _ _ _ _)) rfl (HFIN.out _ rfl)
set_option maxRecDepth 100000 in
set_option maxHeartbeats 1000000 in
theorem put_any (d : Nat) (k n : Int) (s : ByteArray) (l : List Tt) (A : Option Addr) (c : Nat) (ls : List Tt) (Al : Option Addr) (cl : Nat) (w : World) (S : Nat → Prop) (hS : ∀ b, S b → b < w.heap.size) (h : TyRd w S d (.mk k n s l) [.int .i64 k, .int .i64 n, .string s, .slice A l.length c])
    (hR : Rows TyR 4 w S Al ls) (hl : ls.length ≤ 1048576) : Calls Try.prog 28 #[.agg #[.int .i64 k, .int .i64 n, .string s, .slice A l.length c], .slice Al ls.length cl] w (Made w w.heap.size (putT ls (.mk k n s l))) := by
  have HC : Hid (∃ w3, w3 = ((w.alloc (.cells #[.int .i64 k, .int .i64 n, .string s, .slice A l.length c] 25)).alloc (.cells #[.slice Al ls.length cl] 23)).alloc (.cells #[.int .i64 0, .int .i64 0, .string ⟨#[]⟩, .slice none 0 0] 25) ∧ Below w.heap.size w w3 ∧ w3.heap.size = w.heap.size + 3 ∧ w3.heap[w.heap.size + 2]? = some (.cells #[.int .i64 0, .int .i64 0, .string ⟨#[]⟩, .slice none 0 0] 25 (0, 0)) ∧
      Calls Try.prog 46 #[.agg #[.int .i64 k, .int .i64 n, .string s, .slice A l.length c], .func (.func 54) #[] #[.pointer (some ⟨w.heap.size + 1, 0, none⟩)]] w3 (Made w3 (w.heap.size + 3) (putT ls (.mk k n s l)))) := Lib.hid (by
    have hb : Below w.heap.size w (((w.alloc (.cells #[.int .i64 k, .int .i64 n, .string s, .slice A l.length c] 25)).alloc (.cells #[.slice Al ls.length cl] 23)).alloc (.cells #[.int .i64 0, .int .i64 0, .string ⟨#[]⟩, .slice none 0 0] 25)) := ((below_new w _).alloc (by simp) _).alloc (by simp; omega) _
    refine ⟨_, rfl, hb, by simp, heap_alloc3_new _ _ _ _, ?_⟩
    have hS3 : ∀ b, S b → b < (((w.alloc (.cells #[.int .i64 k, .int .i64 n, .string s, .slice A l.length c] 25)).alloc (.cells #[.slice Al ls.length cl] 23)).alloc (.cells #[.int .i64 0, .int .i64 0, .string ⟨#[]⟩, .slice none 0 0] 25)).heap.size := fun b hb => by have := hS b hb; simp; omega
    have hg := put1_gives (B := w.heap.size + 1) (cl := cl) hS3 (hR.keep (Same.of_below hb hS)) (heap_alloc3_mid _ _ _ _) hl
    have := copied_any hg d k n s l A c _ S (Below.refl _ _) hS3 (TyRd.keep (Same.of_below hb hS) _ _ _ h)
    rw [World.size_alloc, World.size_alloc, World.size_alloc] at this
    exact this)
  obtain ⟨w3, hw3, hb3, hz3, hr3, hc3⟩ := HC.out
  have HW := Lib.hid hw3
  have H3 := Lib.hid (And.intro hb3 (And.intro hz3 (And.intro hr3 hc3)))
  clear HC hw3 hb3 hz3 hr3 hc3 h hR hS
  go_enter Try.func28, Try.ntmps28
  go_wp2_with fail
  rw [← HW.out]
  refine H3.out.2.2.2.mono ?_
  rintro e w1 ⟨A6, c6, rfl, h6, h7⟩
  have HN := Lib.hid (And.intro h6 h7)
  clear h6 h7
  have HRS : Hid (w1.heap[w.heap.size + 2]? = some (.cells #[.int .i64 0, .int .i64 0, .string ⟨#[]⟩, .slice none 0 0] 25 (0, 0))) := Lib.hid ((HN.out.2.block _ (by have := H3.out.2.1; omega)).trans H3.out.2.2.1)
  go_wp2_with (refine wpList_store_row rfl 25 _ _ rfl (w.heap.size + 2) _ rfl rfl 25 #[.int .i64 0, .int .i64 0, .string ⟨#[]⟩, .slice none 0 0] HRS.out (tySizeA _ _ _ _) rfl (one4 _ _ _ _ _ _) ?_)
  refine bodyPost_ret (v := .agg #[.int .i64 (putT ls (.mk k n s l)).kind, .int .i64 (putT ls (.mk k n s l)).num, .string (putT ls (.mk k n s l)).name, .slice A6 (putT ls (.mk k n s l)).args.length c6]) (results_cell_row rfl _ _ (w.heap.size + 2) 25 _ (0, 0) _ rfl (setRow_row HRS.out) Try.underlying25 rfl (tySizeA _ _ _ _)) rfl ?_
  obtain ⟨f1, f2⟩ := boxed_end (w := w) (b := w.heap.size + 2) (r := #[.int .i64 (putT ls (.mk k n s l)).kind, .int .i64 (putT ls (.mk k n s l)).num, .string (putT ls (.mk k n s l)).name, .slice A6 (putT ls (.mk k n s l)).args.length c6]) HN.out.1 (by omega) (by omega) (below_then H3.out.1 HN.out.2)
  exact ⟨A6, c6, rfl, f1, f2⟩
end Go.Proofs.Ytgdclchpccbifaa
