/-
  THE WALK OF camletlaw02.EndsCut.
-/
import Derived.Test.YtmcijpdockkjbaaDoorEndsAgreeW
import Derived.Test.YtmcijpdockkjbaaDoorAppend
namespace Go.Proofs.YtmcijpdockkjbaaDoor
open Go.ChangeShapes Go.WideShapes Go.ChangeAt Go.RowKit
set_option linter.unusedVariables false
attribute [local go_sem ↓] Go.wp_at_zero Go.wp_at_succ
theorem intInfo : (Tryd.prog.info? 3).map (fun i => (i.zero, i.size, i.bytes)) = some (some (.int .i64 0), 1, 8) := by kernel_rfl
/-- An end lies in block g. -/
def EndAt (w' : World) (g : Nat) (k n : Int) (A : Option Addr) (l c : Nat) (s : Int) : Prop :=
  w'.cell? ⟨g, 0, none⟩ = some (.int .i64 k) ∧ w'.cell? ⟨g, 1, none⟩ = some (.int .i64 n) ∧ w'.cell? ⟨g, 2, none⟩ = some (.slice A l c) ∧ w'.cell? ⟨g, 3, none⟩ = some (.int .i64 s)
theorem EndAt.new (w : World) (k n : Int) (A : Option Addr) (l c : Nat) (s : Int) : EndAt (w.alloc (.cells #[.int .i64 k, .int .i64 n, .slice A l c, .int .i64 s] 25)) w.heap.size k n A l c s := by
  have h1 : ∀ j, (w.alloc (.cells #[.int .i64 k, .int .i64 n, .slice A l c, .int .i64 s] 25)).cell? ⟨w.heap.size, j, none⟩ = (#[.int .i64 k, .int .i64 n, .slice A l c, .int .i64 s] : Array Value)[j]? := fun j => Go.Joins.cell_alloc_mark_at w _ _ _ _ j rfl
  exact ⟨h1 0, h1 1, h1 2, h1 3⟩
theorem EndAt.same {w w' : World} {g : Nat} {k n : Int} {A : Option Addr} {l c : Nat} {s : Int} (h : EndAt w g k n A l c s) (hc : ∀ j, w'.cell? ⟨g, j, none⟩ = w.cell? ⟨g, j, none⟩) : EndAt w' g k n A l c s :=
  ⟨(hc 0).trans h.1, (hc 1).trans h.2.1, (hc 2).trans h.2.2.1, (hc 3).trans h.2.2.2⟩
theorem right_parts {kc : Int} {xs ys zs : List Int} (hz : zs = xs ++ ys) (hk : kc = 3 ∨ kc = 5 ∨ kc = 6) (r : rightB 1 0 0 zs = true) : rightB kc 0 0 xs = true ∧ xs.all in31 = true ∧ ys.all in31 = true := by
  have h := right_all r
  rw [hz, List.all_append, Bool.and_eq_true] at h
  refine ⟨?_, h.1, h.2⟩
  rw [right_i (by omega) ⟨Int.le_refl _, .inl rfl⟩ (Int.le_refl _)]
  exact h.1
theorem agr_cut (kc : Int) (xs ys zs : List Int) (hz : zs = xs ++ ys) (hk : kc = 3 ∨ kc = 5 ∨ kc = 6) (r : rightB 1 0 0 zs = true) : agreeB kc 0 0 xs 1 0 0 zs = true := by
  obtain ⟨h1, _, _⟩ := right_parts hz hk r
  have hc : cutB kc = true := by rcases hk with rfl | rfl | rfl <;> rfl
  unfold agreeB
  rw [r, h1, if_neg (by omega), hc]
  have : begB zs xs = true := by rw [hz]; unfold begB; simp
  rw [this]; rfl
theorem agr_more (k n s : Int) (xs ys zs : List Int) (hz : zs = xs ++ ys) (h : ¬ ys.length = 0) : agreeB 1 0 0 xs 1 0 0 zs = false := by
  have hs : sameB 1 0 xs 1 0 zs = false := by
    unfold sameB
    rw [eq_short (by rw [hz, List.length_append]; omega)]; rfl
  unfold agreeB
  rw [hs, if_neg (by omega)]
  simp [cutB]
theorem cell_set {w : World} {p : Addr} {v : Value} (h : w.cell? p = some v) (u : Value) : (w.setCell p u).cell? p = some u := by
  exact World.cell?_setCell_same w p u h
theorem agr_differs (kc : Int) (xs ys zs zr : List Int) (z0 zn : Int) (h0 : zs = z0 :: zr) (hz : zs = xs ++ ys) (hk : kc = 3 ∨ kc = 5 ∨ kc = 6) (hx : 0 < xs.length) (hn : zn = (z0 + 1).tmod 1073741824) (l : -1073741824 ≤ z0) (u : z0 ≤ 1073741823) :
    agreeB kc 0 0 xs 1 0 0 (zn :: zr) = false := by
  have hne : ¬ zn = z0 := by rw [hn, tmod_if]; split <;> omega
  cases xs with
  | nil => simp at hx
  | cons x xr =>
    rw [h0] at hz
    obtain rfl : z0 = x := by injection hz
    have h1 : begB (zn :: zr) (z0 :: xr) = false := by
      unfold begB
      rw [List.length_cons, List.take_succ_cons]
      have : (zn :: zr.take xr.length == z0 :: xr) = false := by simp [hne]
      rw [this]; simp
    have h2 : sameB kc 0 (z0 :: xr) 1 0 (zn :: zr) = false := by
      unfold sameB
      have : (kc == 1) = false := beq_eq_false_iff_ne.2 (by omega)
      rw [this]; rfl
    unfold agreeB
    rw [h1, h2, if_neg (by omega)]
    simp [cutB]
theorem ints_set {w : World} {g3 B : Nat} {z0 x : Int} {zr : List Int} (h : ∀ j u, (cells (z0 :: zr))[j]? = some u → w.cell? ((⟨g3, 0, none⟩ : Addr).add j) = some u) (hB : g3 < B) :
    IntsAt (w.setCell ⟨g3, 0, none⟩ (.int .i64 x)) B (some ⟨g3, 0, none⟩) (x :: zr) := fun k y hy => by
  refine ⟨_, rfl, hB, ?_⟩
  cases k with
  | zero =>
    have hc := h 0 (.int .i64 z0) rfl
    have e : (⟨g3, 0, none⟩ : Addr).add 0 = ⟨g3, 0, none⟩ := rfl
    rw [e] at hc ⊢
    obtain rfl : x = y := by simpa using hy
    exact cell_set hc _
  | succ k =>
    have hc := h (k + 1) (.int .i64 y) (by simp only [cells, List.map_cons, List.getElem?_cons_succ, List.getElem?_map] at hy ⊢; rw [hy]; rfl)
    have e : (⟨g3, 0, none⟩ : Addr).add (k + 1) = ⟨g3, k + 1, none⟩ := by simp [Addr.add]
    rw [e] at hc ⊢
    exact (World.cell?_setCell_other _ _ _ _ (by simp)).trans hc
theorem own_none {w : World} {base : Nat} {e : TypeId} {n c : Nat} {cs : List Value} (h : w.ownsRow base e 1 (.slice none n c) n cs) : c = 0 := by
  rcases h.2 with ⟨hv, _⟩ | ⟨g, cap, cur, hv, _⟩
  · injection hv
  · injection hv with h1; cases h1
theorem own_empty (w : World) (e : TypeId) : (w.alloc (.cells #[] e)).ownsRow w.heap.size e 1 (.slice (some ⟨w.heap.size, 0, none⟩) 0 0) 0 [] :=
  ⟨rfl, .inr ⟨w.heap.size, 0, #[], rfl, Nat.le_refl _, heap_alloc_new w _, Nat.le_refl _, Nat.zero_le _, rfl, rfl⟩⟩
theorem end_ab (w : World) (o : Obj) (k n : Int) (A : Option Addr) (l c : Nat) (s : Int) : EndAt ((w.alloc o).alloc (.cells #[.int .i64 k, .int .i64 n, .slice A l c, .int .i64 s] 25)).drew (w.heap.size + 1) k n A l c s := by
  have := EndAt.new (w.alloc o) k n A l c s
  rw [show (w.alloc o).heap.size = w.heap.size + 1 by simp] at this
  exact this
theorem end_ba (w : World) (o : Obj) (k n : Int) (A : Option Addr) (l c : Nat) (s : Int) : EndAt ((w.alloc (.cells #[.int .i64 k, .int .i64 n, .slice A l c, .int .i64 s] 25)).alloc o).drew w.heap.size k n A l c s :=
  (EndAt.new w k n A l c s).same (fun j => World.cell?_alloc_lt _ _ _ (by simp))
section
variable (k n s K : Int) (A D : Option Addr) (c d : Nat) (xs ys : List Int) (w : World)
theorem cut_long (hN : Names w) (hT : Pow10 w) (h : 300 < xs.length ∨ (xs.length ≤ 300 ∧ 300 < ys.length)) :
    Calls Tryd.prog 5 #[.agg #[.int .i64 k, .int .i64 n, .slice A xs.length c, .int .i64 s], .slice D ys.length d, .int .i64 K] w fun e w' => e = .returned (.bool true) ∧ Below w.heap.size w w' := by
  have HN := Lib.hid hN
  have HT := Lib.hid hT
  clear hN hT
  rcases h with h | ⟨h, h'⟩
  all_goals
    go_enter Tryd.func5, Tryd.ntmps5
    go_wp2_with fail
    refine (knows_any _ (HN.out.on (by exact below_new w _)) (HT.out.on (by exact below_new w _))).mono ?_
    rintro e w1 ⟨rfl, hb1⟩
    go_wp2
    go_ret
    exact ⟨rfl, below_then (below_new w _) hb1⟩
set_option maxRecDepth 100000 in
set_option maxHeartbeats 3200000 in
theorem cut_run (hx : IntsAt w w.heap.size A xs) (hy : IntsAt w w.heap.size D ys) (hN : Names w) (hT : Pow10 w) (lx : xs.length ≤ 300) (ly : ys.length ≤ 300) (lc : xs.length ≤ c) (mc : c ≤ maxLen) (ld : ys.length ≤ d) (md : d ≤ maxLen)
    (zc : A = none → c = 0) (zd : D = none → d = 0) :
    Calls Tryd.prog 5 #[.agg #[.int .i64 k, .int .i64 n, .slice A xs.length c, .int .i64 s], .slice D ys.length d, .int .i64 K] w fun e w' => e = .returned (.bool true) ∧ Below w.heap.size w w' := by
  have HN := Lib.hid hN
  have HT := Lib.hid hT
  have HX := Lib.hid hx
  have HY := Lib.hid hy
  clear hN hT hx hy
  obtain ⟨i0, hi, hz0, hz1, hz2⟩ := info_parts intInfo
  obtain ⟨zs, hzs⟩ : ∃ zs : List Int, zs = xs ++ ys := ⟨_, rfl⟩
  have lz : zs.length ≤ 600 := by rw [hzs, List.length_append]; omega
  have HZ := Lib.hid hzs
  clear hzs
  go_enter Tryd.func5, Tryd.ntmps5
  go_upto_region 3 with fail
  go_cut [7] from 20 to 26 (fun s7 wx => ∃ (A1 : Option Addr) (c1 g : Nat), s7 = .pointer (some ⟨g, 0, none⟩) ∧ EndAt wx g 1 0 A1 zs.length c1 0 ∧ IntsAt wx wx.heap.size A1 zs ∧ zs.length ≤ c1 ∧ c1 ≤ maxLen ∧ (A1 = none → c1 = 0) ∧ Below w.heap.size w wx ∧
    EndAt wx w.heap.size k n A xs.length c s ∧ w.heap.size < g ∧ g < wx.heap.size)
  case first =>
    have hown0 := own_empty (w.alloc (.cells #[.int .i64 k, .int .i64 n, .slice A xs.length c, .int .i64 s] 25)) 3
    rw [show (w.alloc (.cells #[.int .i64 k, .int .i64 n, .slice A xs.length c, .int .i64 s] 25)).heap.size = w.heap.size + 1 by simp] at hown0
    have hzx : 0 + xs.length ≤ 65536 := by omega
    have h1 := (HX.out.alloc (Nat.le_refl _) (.cells #[.int .i64 k, .int .i64 n, .slice A xs.length c, .int .i64 s] 25)).alloc (by simp) (.cells #[] 3)
    have b0 := Lib.hid (Go.Joins.below_alloc2 w (.cells #[.int .i64 k, .int .i64 n, .slice A xs.length c, .int .i64 s] 25) (.cells #[] 3))
    have hzy : 0 + xs.length + ys.length ≤ 65536 := by omega
    have KY := Lib.hid (fun (w1 : World) (hg1 : ((w.alloc (.cells #[.int .i64 k, .int .i64 n, .slice A xs.length c, .int .i64 s] 25)).alloc (.cells #[] 3)).grownBy w1 (some (w.heap.size + 1))) =>
      (show Below (w.heap.size + 1) ((w.alloc (.cells #[.int .i64 k, .int .i64 n, .slice A xs.length c, .int .i64 s] 25)).alloc (.cells #[] 3)) w1 from (Below.refl _ _).grown hg1 (by simp) (fun k hk => by cases hk; exact Nat.le_refl _)))
    go_wp2_with (first
      | (at_builtin; refine wpList_append_ints rfl (.tmp 20) (.tmp 22) 23 rfl (w.heap.size + 1) 3 i0 (.int .i64 0) Tryd.underlying23 hi hz0 hz1 hz2 rfl (.slice (some ⟨w.heap.size + 1, 0, none⟩) 0 0) 0 [] rfl hown0 A xs c rfl zc h1 hzx (by simp) ?_; intro v1 w1 hown1 hg1 _
         have q1 := KY.out w1 hg1
         have e1 := (EndAt.new w k n A xs.length c s).same (w' := w1) (fun j => (q1.cell (p := ⟨w.heap.size, j, none⟩) (by simp)).trans (World.cell?_alloc_lt _ _ _ (by simp)))
         have q2 := Lib.hid (b0.out.trans (q1.mono (by omega)))
         have h2 := HY.out.below q2.out
         have z1 : w.heap.size + 1 ≤ w1.heap.size := by have := q1.size; simp at this; omega)
      | (at_builtin; refine wpList_append_ints rfl (.tmp 23) (.tmp 24) 23 rfl (w.heap.size + 1) 3 i0 (.int .i64 0) Tryd.underlying23 hi hz0 hz1 hz2 rfl v1 (0 + xs.length) ([] ++ cells xs) rfl hown1 D ys d rfl zd h2 hzy z1 ?_; intro v2 w2 hown2 hg2 _
         have q3 : Below (w.heap.size + 1) w1 w2 := (Below.refl _ _).grown hg2 z1 (fun k hk => (hown1.lt k hk).1)
         have e2 := Lib.hid (e1.same (w' := w2) (fun j => q3.cell (p := ⟨w.heap.size, j, none⟩) (by simp)))
         have q4 := Lib.hid (q2.out.trans (q3.mono (by omega)))
         have z2 : w.heap.size < w2.heap.size := by have := q3.size; omega
         obtain ⟨A2, c2, rfl⟩ := own_form hown2
         have hO := Lib.hid hown2
         clear hown2 hg2 q3 e1 q1 h2 hg1 hown1))
    go_meet
    have h3 := hO.out
    rw [List.nil_append, ← cells_app, Nat.zero_add, ← HZ.out] at h3
    obtain ⟨hl, hI, hc1, hc2⟩ := ints_own h3
    exact ⟨A2, c2, w2.heap.size, rfl, by rw [← hl]; exact EndAt.new w2 1 0 A2 _ c2 0, (hI.alloc (Nat.le_refl _) _).more (by simp), by rw [← hl]; exact hc1, hc2, (fun e => by subst e; exact own_none h3), below_then q4.out (below_new _ _),
      e2.out.same (fun j => World.cell?_alloc_lt _ _ _ z2), z2, by simp⟩
  case rest =>
    obtain ⟨A1, c1, g, rfl, hb, hI, hc1, mc1, zc1, hW, ha, hg, hgw⟩ := hcut
    obtain ⟨we, rfl⟩ : ∃ we : World, we = wc := ⟨_, rfl⟩
    have HI := Lib.hid hI
    have HB := Lib.hid hb
    have HA := Lib.hid ha
    have HW := Lib.hid hW
    clear hI hb hW
    obtain ⟨wo, hwo⟩ : ∃ wo : Nat, wo = w.heap.size := ⟨_, rfl⟩
    have a2 := ha.2.2.1
    rw [← hwo] at a2 hg
    rw [← hwo]
    have HWO := Lib.hid hwo
    clear hwo ha
    go_upto_region 4 with fail
    go_cut [8] from 27 to 35 (fun s8 wy => ∃ (kc : Int) (g8 : Nat), (kc = 3 ∨ kc = 5 ∨ kc = 6) ∧ s8 = .pointer (some ⟨g8, 0, none⟩) ∧ EndAt wy g8 kc 0 A xs.length c 0 ∧ Below we.heap.size we wy ∧ we.heap.size ≤ g8 ∧ g8 < wy.heap.size)
    case first =>
      have hwc : wo < we.heap.size := by omega
      have h3 : (IntKind.u64.wrap K).tmod 3 = 0 ∨ (IntKind.u64.wrap K).tmod 3 = 1 ∨ (IntKind.u64.wrap K).tmod 3 = 2 := by
        have h0 : 0 ≤ IntKind.u64.wrap K := by rw [IntKind.wrap_u64]; omega
        rw [Int.tmod_eq_emod_of_nonneg h0]; omega
      rcases h3 with h3 | h3 | h3
      all_goals
        go_region
      all_goals go_wp2_with fail
      all_goals go_meet
      all_goals first
        | exact ⟨_, _, by simp, rfl, end_ab _ _ _ _ _ _ _ _, below_drew1 (Go.Joins.below_alloc2 _ _ _), by omega, by simp⟩
        | exact ⟨_, _, by simp, rfl, end_ba _ _ _ _ _ _ _ _, below_drew1 (Go.Joins.below_alloc2 _ _ _), by omega, by simp; omega⟩
    case rest =>
      obtain ⟨wd, rfl⟩ : ∃ wd : World, wd = wc := ⟨_, rfl⟩
      obtain ⟨kc, g8, hk, rfl, hE8, hb8, hg8, hz8⟩ := hcut
      have hgd : g < wd.heap.size := by omega
      have hwd : wo < wd.heap.size := by omega
      have hEb := HB.out.same (w' := wd) (fun j => hb8.cell (p := ⟨g, j, none⟩) hgw)
      have hEa := HA.out.same (w' := wd) (fun j => hb8.cell (p := ⟨w.heap.size, j, none⟩) (by have := HWO.out; show w.heap.size < _; omega))
      rw [← HWO.out] at hEa
      have HIb := Lib.hid (((HI.out.below hb8).more hb8.size))
      have HIa := Lib.hid (((HX.out.below HW.out).more HW.out.size).below hb8 |>.more hb8.size)
      have HWd := Lib.hid (below_then HW.out hb8)
      have HNd := Lib.hid (HN.out.on HWd.out)
      have HTd := Lib.hid (HT.out.on HWd.out)
      clear hb8 HB HA
      cases r : rightB 1 0 0 zs
      · have R := Lib.hid r
        clear r
        obtain ⟨p0, p1, p2, p3⟩ := hEb
        obtain ⟨t0, t1, t2, t3⟩ := hE8
        go_wp2_with fail
        refine (right_any 1 0 0 A1 c1 zs _ HIb.out (Nat.le_refl _) (by unfold maxLen at *; omega)).mono ?_
        rw [R.out]
        rintro e w5 ⟨rfl, hb5⟩
        obtain ⟨hc5, hf5⟩ := bcell hb5
        go_wp2_with fail
        refine (agree_e kc 0 0 1 0 0 A A1 c c1 xs zs _ (HIa.out.below hb5) (HIb.out.below hb5) hb5.size lc mc hc1 mc1).mono ?_
        rw [show agreeB kc 0 0 xs 1 0 0 zs = false by unfold agreeB; rw [R.out]; simp]
        rintro e w6 ⟨rfl, hb6⟩
        have b6 := below_then hb5 hb6
        go_wp2_with fail
        refine (knows_any _ (HNd.out.on b6) (HTd.out.on b6)).mono ?_
        rintro e w7 ⟨rfl, hb7⟩
        go_wp2
        go_ret
        exact ⟨rfl, below_then HWd.out (below_then b6 hb7)⟩
      · have R := Lib.hid r
        clear r
        obtain ⟨p0, p1, p2, p3⟩ := hEb
        obtain ⟨t0, t1, t2, t3⟩ := hE8
        obtain ⟨u0, u1, u2, u3⟩ := hEa
        go_wp2_with fail
        refine (right_any 1 0 0 A1 c1 zs _ HIb.out (Nat.le_refl _) (by unfold maxLen at *; omega)).mono ?_
        rw [R.out]
        rintro e w5 ⟨rfl, hb5⟩
        obtain ⟨hc5, hf5⟩ := bcell hb5
        have z5 := hb5.size
        have zg : g < w5.heap.size := by omega
        have zo : wo < w5.heap.size := by omega
        have z8 : g8 < w5.heap.size := by omega
        go_upto_region 8 with fail
        have HI5 := Lib.hid ((HIb.out.below hb5).more hb5.size)
        have HX5 := Lib.hid ((HIa.out.below hb5).more hb5.size)
        have k0 : w5.cell? ⟨g, 2, none⟩ = some (.slice A1 zs.length c1) := (hc5 g 2 (by omega)).trans p2
        have ED := Lib.hid (EndAt.new w5 1 0 A1 zs.length c1 0)
        have FD := Lib.hid (fun j => Lib.frozen_of_heap (heap_alloc_new w5 (.cells #[.int .i64 1, .int .i64 0, .slice A1 zs.length c1, .int .i64 0] 25)) j)
        go_cut [9] from 47 to 51 (fun s9 wz => ∃ (A3 : Option Addr) (c3 g9 : Nat), s9 = .pointer (some ⟨g9, 0, none⟩) ∧ EndAt wz g9 1 0 A3 zs.length c3 0 ∧ Below w5.heap.size w5 wz ∧ w5.heap.size ≤ g9 ∧ g9 < wz.heap.size ∧
          wz.ownsRow (w5.heap.size + 1) 3 1 (.slice A3 zs.length c3) zs.length (cells zs) ∧ g9 < w5.heap.size + 1)
        case first =>
          have hown0 := own_empty (w5.alloc (.cells #[.int .i64 1, .int .i64 0, .slice A1 zs.length c1, .int .i64 0] 25)) 3
          rw [show (w5.alloc (.cells #[.int .i64 1, .int .i64 0, .slice A1 zs.length c1, .int .i64 0] 25)).heap.size = w5.heap.size + 1 by simp] at hown0
          have h1 := (HI5.out.alloc (Nat.le_refl _) (.cells #[.int .i64 1, .int .i64 0, .slice A1 zs.length c1, .int .i64 0] 25)).alloc (by simp) (.cells #[] 3)
          have hzz : 0 + zs.length ≤ 65536 := by omega
          have b0 := Lib.hid (Go.Joins.below_alloc2 w5 (.cells #[.int .i64 1, .int .i64 0, .slice A1 zs.length c1, .int .i64 0] 25) (.cells #[] 3))
          go_wp2_with
            (at_builtin; refine wpList_append_ints rfl (.tmp 47) (.tmp 49) 23 rfl (w5.heap.size + 1) 3 i0 (.int .i64 0) Tryd.underlying23 hi hz0 hz1 hz2 rfl (.slice (some ⟨w5.heap.size + 1, 0, none⟩) 0 0) 0 [] rfl hown0 A1 zs c1 rfl zc1 h1 hzz (by simp) ?_; intro v1 w8 hown1 hg1 _
             have q1 : Below (w5.heap.size + 1) ((w5.alloc (.cells #[.int .i64 1, .int .i64 0, .slice A1 zs.length c1, .int .i64 0] 25)).alloc (.cells #[] 3)) w8 := (Below.refl _ _).grown hg1 (by simp) (fun k hk => by cases hk; exact Nat.le_refl _)
             have e1 := ED.out.same (w' := w8) (fun j => (q1.cell (p := ⟨w5.heap.size, j, none⟩) (by simp)).trans (World.cell?_alloc_lt _ _ _ (by simp)))
             have f1 : w8.frozen? ⟨w5.heap.size, 2, none⟩ = false := (q1.frozen (p := ⟨w5.heap.size, 2, none⟩) (by simp)).trans (((below_new _ _).frozen (p := ⟨w5.heap.size, 2, none⟩) (by simp)).trans (FD.out 2))
             have z9 : w5.heap.size + 1 < w8.heap.size := by have := q1.size; simp at this; omega
             have q2 := Lib.hid (b0.out.trans (q1.mono (by omega)))
             obtain ⟨A3, c3, rfl⟩ := own_form hown1
             have hO := Lib.hid hown1
             have E1 := Lib.hid e1
             obtain ⟨e10, e11, e12, e13⟩ := e1
             clear hown1 hg1 q1)
          go_meet
          have h3 := hO.out
          rw [List.nil_append, Nat.zero_add] at h3
          exact ⟨A3, c3, w5.heap.size, rfl, ⟨(World.cell?_setCell_other _ _ _ _ (by simp)).trans E1.out.1, (World.cell?_setCell_other _ _ _ _ (by simp)).trans E1.out.2.1, cell_set E1.out.2.2.1 _, (World.cell?_setCell_other _ _ _ _ (by simp)).trans E1.out.2.2.2⟩,
            q2.out.setCell (p := ⟨w5.heap.size, 2, none⟩) (Nat.le_refl _) _, Nat.le_refl _, by simp [World.setCell]; omega, ownsRow_setCell_below h3 (by simp) _, Nat.lt_succ_self _⟩
        case rest =>
          obtain ⟨w9, rfl⟩ : ∃ w9 : World, w9 = wc := ⟨_, rfl⟩
          obtain ⟨A3, c3, g9, rfl, hEd, hb9, hg9, hz9, hown, hg9'⟩ := hcut
          have HN5 := Lib.hid (HNd.out.on hb5)
          have HT5 := Lib.hid (HTd.out.on hb5)
          have HW5 := Lib.hid (below_then HWd.out hb5)
          have AG1 := Lib.hid (agr_cut kc xs ys zs HZ.out hk R.out)
          have m0 : w5.cell? ⟨g, 0, none⟩ = some (.int .i64 1) := (hc5 g 0 (by omega)).trans p0
          have m1 : w5.cell? ⟨g, 1, none⟩ = some (.int .i64 0) := (hc5 g 1 (by omega)).trans p1
          have m3 : w5.cell? ⟨g, 3, none⟩ = some (.int .i64 0) := (hc5 g 3 (by omega)).trans p3
          have r0 : w5.cell? ⟨g8, 0, none⟩ = some (.int .i64 kc) := (hc5 g8 0 (by omega)).trans t0
          have r1 : w5.cell? ⟨g8, 1, none⟩ = some (.int .i64 0) := (hc5 g8 1 (by omega)).trans t1
          have r2 : w5.cell? ⟨g8, 2, none⟩ = some (.slice A xs.length c) := (hc5 g8 2 (by omega)).trans t2
          have r3 : w5.cell? ⟨g8, 3, none⟩ = some (.int .i64 0) := (hc5 g8 3 (by omega)).trans t3
          have s2 : w5.cell? ⟨wo, 2, none⟩ = some (.slice A xs.length c) := (hc5 wo 2 (by omega)).trans u2
          clear p0 p1 p2 p3 t0 t1 t2 t3 u0 u1 u2 u3 hc5 hf5 a2
          by_cases hx0 : xs.length = 0
          · have hx1 : ¬ 0 < xs.length := by omega
            clear hx0
            obtain ⟨wq, rfl⟩ : ∃ wq : World, wq = w9 := ⟨_, rfl⟩
            clear hEd hown
            obtain ⟨m1, m2⟩ := bcell hb9
            have zq := hb9.size
            have zq1 : g < wq.heap.size := by omega
            have zq2 : g8 < wq.heap.size := by omega
            have zq3 : wo < wq.heap.size := by omega
            go_wp2_with fail
            refine (agree_e kc 0 0 1 0 0 A A1 c c1 xs zs _ (HX5.out.below hb9) (HI5.out.below hb9) hb9.size lc mc hc1 mc1).mono ?_
            rw [AG1.out]
            rintro e x1 ⟨rfl, hx1⟩
            have bx1 := below_then hb9 hx1
            obtain ⟨n1, n2⟩ := bcell bx1
            have zx := bx1.size
            have zx1 : g < x1.heap.size := by omega
            have zx3 : wo < x1.heap.size := by omega
            by_cases hys : ys.length = 0
            · have hy0 : ((ys.length : Int) == 0) = true := beq_iff_eq.2 (by omega)
              clear hys
              go_wp2_with fail
              refine (knows_any _ (HN5.out.on bx1) (HT5.out.on bx1)).mono ?_
              rintro e x2 ⟨rfl, hx2⟩
              go_wp2
              go_ret
              exact ⟨rfl, below_then HW5.out (below_then bx1 hx2)⟩
            · have hy0 : ((ys.length : Int) == 0) = false := beq_eq_false_iff_ne.2 (by omega)
              have AG2 := Lib.hid (agr_more k n s xs ys zs HZ.out hys)
              clear hys
              go_wp2_with fail
              refine (agree_e 1 0 0 1 0 0 A A1 c c1 xs zs _ (HX5.out.below bx1) (HI5.out.below bx1) bx1.size lc mc hc1 mc1).mono ?_
              rw [AG2.out]
              rintro e x2 ⟨rfl, hx2⟩
              have bx2 := below_then bx1 hx2
              go_wp2_with fail
              refine (knows_any _ (HN5.out.on bx2) (HT5.out.on bx2)).mono ?_
              rintro e x3 ⟨rfl, hx3⟩
              go_wp2
              go_ret
              exact ⟨rfl, below_then HW5.out (below_then bx2 hx3)⟩
          · have hx1 : 0 < xs.length := by omega
            clear hx0
            obtain ⟨z0, zr, hz0, hzs⟩ : ∃ (z0 : Int) (zr : List Int), zs = z0 :: zr ∧ in31 z0 = true := by
              have h := right_all R.out
              cases hzz : zs with
              | nil => have := HZ.out; rw [hzz] at this; have := congrArg List.length this; simp at this; omega
              | cons z0 zr => rw [hzz] at h; exact ⟨z0, zr, rfl, by simp at h; exact h.1⟩
            have lz0 : 0 < zs.length := by rw [hz0]; simp
            simp [in31] at hzs
            obtain ⟨g3, cap, cur, hA3, hg3, hh3, hn3, hcm3, hcs3, htk⟩ : ∃ g cap cur, (.slice A3 zs.length c3 : Value) = .slice (some ⟨g, 0, none⟩) zs.length cap ∧ w5.heap.size + 1 ≤ g ∧ w9.heap[g]? = some (.cells cur 3 (0, 0)) ∧ zs.length ≤ cap ∧ cap ≤ maxLen ∧ cur.size = cap * 1 ∧ cur.toList.take (zs.length * 1) = cells zs := by
              rcases hown.2 with ⟨hv, h0⟩ | h
              · omega
              · exact h
            injection hA3 with hA3 _ hc3
            subst hA3
            subst hc3
            have hI3 := hown.cells (g := g3) rfl
            have hc0 : w9.cell? ⟨g3, 0, none⟩ = some (.int .i64 z0) := by
              have := hI3 0 (.int .i64 z0) (by rw [hz0]; rfl)
              simpa [Addr.add] using this
            have hf0 : w9.frozen? ⟨g3, 0, none⟩ = false := Lib.frozen_of_heap hh3 0
            have hadd : IntKind.i64.wrap (z0 + 1) = z0 + 1 := by rw [IntKind.wrap_i64]; omega
            have hd2 := hEd.2.2.1
            have hli0 : (0 : Int) < (zs.length : Int) := by omega
            have hgne : g9 ≠ g3 := by omega
            obtain ⟨zn, hzn⟩ : ∃ zn, zn = (z0 + 1).tmod 1073741824 := ⟨_, rfl⟩
            have hb3 := hb9.size
            have s9 : w9.cell? ⟨wo, 2, none⟩ = some (.slice A xs.length c) := ((bcell hb9).1 wo 2 zo).trans s2
            clear hI3
            go_upto_region 10 with fail
            have HL := Lib.hid (show (zn :: zr).length = zs.length by rw [hz0]; rfl)
            have HZN := Lib.hid hzn
            have AG3 := Lib.hid (agr_differs kc xs ys zs zr z0 zn hz0 HZ.out hk hx1 hzn hzs.1 hzs.2)
            have HI3 := Lib.hid (show ∀ j u, (cells (z0 :: zr))[j]? = some u → w9.cell? ((⟨g3, 0, none⟩ : Addr).add j) = some u by rw [← hz0]; exact hown.cells (g := g3) rfl)
            have HEd := Lib.hid hEd
            have HN9 := Lib.hid hg9'
            have hg3lt : g3 < w9.heap.size := by
              rcases Nat.lt_or_ge g3 w9.heap.size with h' | h'
              · exact h'
              · rw [Array.getElem?_eq_none h'] at hh3; cases hh3
            clear hz0 hzn hown hh3 hcs3 htk
            go_cut [] from 56 to 64 (fun wz => Below w5.heap.size w5 wz ∧ EndAt wz g9 1 0 (some ⟨g3, 0, none⟩) zs.length c3 0 ∧ IntsAt wz wz.heap.size (some ⟨g3, 0, none⟩) (zn :: zr) ∧ g9 < wz.heap.size)
            case first =>
              go_region
              go_wp2_with fail
              go_meet
              have e1 := HZN.out
              rw [← e1]
              exact ⟨below_drew1 (hb9.setCell (p := ⟨g3, 0, none⟩) (by show w5.heap.size ≤ g3; omega) _), HEd.out.same (fun j => World.cell?_setCell_other w9 _ _ _ (by intro h; injection h with h1; omega)), ints_set HI3.out (by simpa [World.setCell] using hg3lt), by simp [World.setCell]; omega⟩
            case rest =>
              obtain ⟨wq, rfl⟩ : ∃ wq : World, wq = wc := ⟨_, rfl⟩
              obtain ⟨hbq, hEq, hIq, hzq⟩ := hcut
              obtain ⟨e10, e11, e12, e13⟩ := hEq
              obtain ⟨mm1, mm2⟩ := bcell hbq
              have hn4 : (zn :: zr).length ≤ c3 := by rw [HL.out]; exact hn3
              have CA := agree_e kc 0 0 1 0 0 A (some ⟨g3, 0, none⟩) c c3 xs (zn :: zr) wq ((HX5.out.below hbq).more hbq.size) hIq (Nat.le_refl _) lc mc hn4 hcm3
              rw [HL.out, AG3.out] at CA
              have CA' := Lib.hid CA
              clear CA
              go_wp2_with fail
              refine CA'.out.mono ?_
              rintro e wr ⟨rfl, hbr0⟩
              have hbr := below_then hbq hbr0
              clear mm1 mm2 hbr0
              obtain ⟨mm1, mm2⟩ := bcell hbr
              have zq := hbr.size
              have zq1 : g < wr.heap.size := by omega
              have zq2 : g8 < wr.heap.size := by omega
              have zq3 : wo < wr.heap.size := by omega
              go_wp2_with fail
              refine (agree_e kc 0 0 1 0 0 A A1 c c1 xs zs _ (HX5.out.below hbr) (HI5.out.below hbr) hbr.size lc mc hc1 mc1).mono ?_
              rw [AG1.out]
              rintro e x1 ⟨rfl, hx1⟩
              have bx1 := below_then hbr hx1
              obtain ⟨n1, n2⟩ := bcell bx1
              have zx := bx1.size
              have zx1 : g < x1.heap.size := by omega
              have zx3 : wo < x1.heap.size := by omega
              by_cases hys : ys.length = 0
              · have hy0 : ((ys.length : Int) == 0) = true := beq_iff_eq.2 (by omega)
                clear hys
                go_wp2_with fail
                refine (knows_any _ (HN5.out.on bx1) (HT5.out.on bx1)).mono ?_
                rintro e x2 ⟨rfl, hx2⟩
                go_wp2
                go_ret
                exact ⟨rfl, below_then HW5.out (below_then bx1 hx2)⟩
              · have hy0 : ((ys.length : Int) == 0) = false := beq_eq_false_iff_ne.2 (by omega)
                have AG2 := Lib.hid (agr_more k n s xs ys zs HZ.out hys)
                clear hys
                go_wp2_with fail
                refine (agree_e 1 0 0 1 0 0 A A1 c c1 xs zs _ (HX5.out.below bx1) (HI5.out.below bx1) bx1.size lc mc hc1 mc1).mono ?_
                rw [AG2.out]
                rintro e x2 ⟨rfl, hx2⟩
                have bx2 := below_then bx1 hx2
                go_wp2_with fail
                refine (knows_any _ (HN5.out.on bx2) (HT5.out.on bx2)).mono ?_
                rintro e x3 ⟨rfl, hx3⟩
                go_wp2
                go_ret
                exact ⟨rfl, below_then HW5.out (below_then bx2 hx3)⟩
end
theorem ints_of0 {H : Type} {enc : TypeId × Value → H} {P : Program} {w : World} {base : Nat} {held : Bool} {t e : TypeId} {fuel : Nat} {v : Value} {y : DataW H × List MemPlace} (ht : P.underlying t = some (.slice e)) (he : P.underlying e = some (.int .i64)) (hc : P.cellsOf e = 1)
    (h : DataW.trod enc P w base (fun _ => true) held fuel t [v] = some y) : ∃ (A : Option Addr) (c : Nat) (xs : List Int), v = .slice A xs.length c ∧ IntsAt w w.heap.size A xs ∧ xs.length ≤ c ∧ c ≤ maxLen ∧ In64 xs ∧ (A = none → c = 0) := by
  obtain ⟨A, c, xs, hv, h1, h2, h3, h4⟩ := ints_of ht he hc h
  refine ⟨A, c, xs, hv, h1, h2, h3, h4, fun hA => ?_⟩
  subst hA
  rcases open_ints ht he hc h with ⟨hv', _⟩ | ⟨a, len, cap, zs, hv', _⟩
  · simp only [List.cons.injEq, and_true] at hv'
    rw [hv] at hv'; injection hv'
  · simp only [List.cons.injEq, and_true] at hv'
    rw [hv] at hv'; injection hv' with hA; cases hA
theorem open_end0 {H : Type} {enc : TypeId × Value → H} {W : World} {v : Value} {d : DataW H} {p : List MemPlace} (o : Value.okWide Tryd.prog W .any 0 25 v) (r : DataW.Trod enc Tryd.prog W 0 (fun _ => true) true 25 v d p) :
    ∃ (k n s : Int) (A : Option Addr) (c : Nat) (xs : List Int), v = .agg #[.int .i64 k, .int .i64 n, .slice A xs.length c, .int .i64 s] ∧ IntsAt W W.heap.size A xs ∧ xs.length ≤ c ∧ c ≤ maxLen ∧ (A = none → c = 0) := by
  obtain ⟨v0, v1, v2, v3, y0, y1, y2, y3, m, rfl, _, _, h0, h1, h2, h3⟩ := Go.Joins.open_agg4 Tryd.underlying25 (by kernel_rfl) (by kernel_rfl) o r
  obtain ⟨k, e0, _, _⟩ := DataW.trod_int Tryd.underlying22 h0
  obtain ⟨n, e1, _, hn⟩ := DataW.trod_int Tryd.underlying3 h1
  obtain ⟨A, c, xs, rfl, hI, hl, hc, h64, hz⟩ := ints_of0 Tryd.underlying23 Tryd.underlying3 (by kernel_rfl) h2
  obtain ⟨s, e3, _, _⟩ := DataW.trod_int Tryd.underlying3 h3
  simp only [List.cons.injEq, and_true] at e0 e1 e3
  subst e0 e1 e3
  exact ⟨k, n, s, A, c, xs, rfl, hI, hl, hc, hz⟩
theorem open_ints0 {H : Type} {enc : TypeId × Value → H} {W : World} {v : Value} {d : DataW H} {p : List MemPlace} (o : Value.okWide Tryd.prog W .any 0 23 v) (r : DataW.Trod enc Tryd.prog W 0 (fun _ => true) true 23 v d p) :
    ∃ (A : Option Addr) (c : Nat) (xs : List Int), v = .slice A xs.length c ∧ IntsAt W W.heap.size A xs ∧ xs.length ≤ c ∧ c ≤ maxLen ∧ (A = none → c = 0) := by
  obtain ⟨a, l, c, rfl⟩ := okWide_slice Tryd.underlying23 o
  obtain ⟨fuel, hf⟩ := r
  obtain ⟨A, c', xs, hv, h1, h2, h3, _, h5⟩ := ints_of0 Tryd.underlying23 Tryd.underlying3 (by kernel_rfl) hf
  exact ⟨A, c', xs, hv, h1, h2, h3, h5⟩
end Go.Proofs.YtmcijpdockkjbaaDoor
